import Derived.Test.YtdijhifdjbnkfaaGreatZT2
import Derived.Test.YtdijhifdjbnkfaaGreatZT25
set_option maxRecDepth 100000
set_option maxHeartbeats 0
set_option linter.unusedVariables false
set_option linter.unusedSimpArgs false
namespace Go.Proofs.YtdijhifdjbnkfaaGreat
open Lib (hid)
open Tryz
namespace TK
open RowKit MM
open UM (ZR ZU ZV runesL)
variable {row:List Int} {n:Nat}
theorem Zj3 {w:World} {v:Value} {d:List Int} (h:Zej w v d):UM.Zrz w v d:=by
 obtain ⟨p,c,e,_,_,_,h⟩:=h;rw [XE] at e;refine ⟨p,c,e,?_⟩;rcases h with h|⟨b,off,g,a,f⟩
 ·exact .inl (Xbe.1 h)
 ·exact .inr ⟨b,off,g,a,fun i hi=>f i _ (by simp [List.getD,hi])⟩
def Big (row:List Int) (n:Nat):Prop:=∀m,n<m->m<=row.length->m<=32->32<(Zdl (row.take m)).length
theorem Zz8 (c:n<=row.length) (a:n<=32) (d:Big row n) (hs:(Zdl (row.take n)).length<=32):Zfw row=Zdl (row.take n):=by
 refine ZnJ row n c hs ?_
 by_cases b:n=row.length
 ·exact .inl b
 ·right
  by_cases h2:n<32
  ·exact d (n+1) (by omega) (by omega) (by omega)
  ·have:=(Zx3 (row.take (n+1))).1;rw [Xi] at this;omega
theorem Zt6 (row:List Int):Big row (min row.length 32):=fun m h1 h2 h3=>by omega
theorem ZwI (c:Big row (n+1)) (h:32<(Zdl (row.take (n+1))).length):Big row n:=fun m h1 a b=>by
 by_cases e:m=n+1
 ·subst e;exact h
 ·exact c m (by omega) a b
def Zsi:Value->Nat
 | .slice _ n _=>n
 | _=>0
theorem Zc7 (l:Xu):(⟨l.toArray⟩:ByteArray).size=l.length:=by rw [Lib.size_eq]
def ZoS (l:Xu) (w:World) (e:Ending) (w':World):Prop:=e=.returned (.string ⟨l.toArray⟩)/\Below w.heap.size w w'
theorem Zs3 (v:Value) (row:List Int) (w:World) (hr:Zej w v row) (hl:row.length<=1000000):Calls prog 280 #[v] w (ZoS (Zfw row) w):=by
 obtain ⟨i0,hi,T,R,O⟩:=info_parts Zgi;obtain ⟨p,au,rfl,aw,ak⟩:=hr.shape;unfold maxLen at ak;obtain ⟨N,hN⟩:=Xn (min row.length 32);obtain ⟨L,hL⟩:=Xn (row.map ZR);have ag:L.length=row.length:=by rw [<- hL,XE]
 have aa:=hid ag;have ab:=hid hL;clear hL ag;have G:min (row.length:Int) 32=(N:Int):=by omega
 have i1:(N:Int)<=(au:Int):=by omega
 have HR:=hid hr;have HN:=hid hN;clear hr hN;go_enter func280,ntmps280;go_wp2_with (at_make;refine wpList_make_own w rfl _ _ 69 rfl w.heap.size 3 i0 (.int .i64 0) 1 underlying69 hi T R .i64 .i64 32 32 rfl rfl rfl (by rw [O];omega) (by unfold maxLen;omega) (Xc _) ?_)
 intro w1 A ae;have b1:=(Below.refl w.heap.size w).grown ae (Xc _) (fun k h=>by cases h);have X:Hid (Ze3 w.heap.size w1 _ (L.take 0)):=hid A;have ad:=hid b1;clear A ae b1;go_wp2_with fail
 go_loopw [3,14] (fun u i wr=>∃k:Nat,k<=N/\i=.int .i64 k/\Hid (Ze3 w.heap.size wr u (L.take k))/\Hid (Below w.heap.size w wr)) (fun _ i _=>N - (intOf i).toNat)
 case atStart=>exact ⟨0,by omega,rfl,X,ad⟩
 case round =>
  obtain ⟨k,hk,rfl,HO,C⟩:=hrel;clear X ad;have az:N<=row.length:=by have:=HN.out;omega
  have B:=C.out.size
  by_cases ai:k<N
  ·have t1:decide ((k:Int)<(N:Int))=true:=by simp;omega
   have S:k<row.length:=by omega
   obtain ⟨b,off,rfl,aj,l⟩:=HR.out.at_ S;have E:=(C.out.cell (p:=⟨b,off+k,none⟩) aj).trans l
   have H:L.take (k+1)=L.take k++[ZR (row.getD k 0)]:=by
    rw [<- ab.out,XG (by rw [XE];exact S)];simp [List.getD,S]
   have a:=fun W=>UM.Zu4 (row.getD k 0) W;have aA:(L.take k).length<=32:=by rw [Xi];have:=HN.out;omega
   obtain ⟨r,J⟩:=Xn (row.getD k 0);rw [J] at E H;simp only [J] at a;have aq:=hid H;have HL:=hid a;clear l H a J G hi T R O;go_wp2_with fail;refine (HL.out _).mono ?_;rintro e w2 ⟨rfl,c⟩;have ao:=hid (HO.out.keep c);have z:=hid (C.out.trans (c.mono B));have ah:=z.out.size;clear c;go_wp2_with (at_builtin;refine ZjD rfl _ _ rfl w.heap.size _ _ w2 (ZR r) rfl rfl ao.out rfl (by omega) ah ?_)
   intro v3 w3 d j;rw [<- aq.out] at d;have ap:=hid d;have M:=hid (z.out.trans j);clear d j;go_wp2_with fail;go_roundw
   case rel=>exact ⟨k+1,by omega,by go_num,ap,M⟩
   case measure=>simp [intOf];omega
  ·obtain rfl:k=N:=by omega
   have o:=HO.out.irow;obtain ⟨q,s,rfl,an,am⟩:=o.shape;have f:(L.take k).length=k:=by rw [Xi,aa.out];omega
   rw [f] at o an ⊢;have ac:=UM.Zem _ _ wr (Zj3 o) (by rw [f];omega);have x:=hid ac;have V:=hid o;have ay:=hid f;clear ac o f HO hi T R O;have t1:decide ((k:Int)<(k:Int))=false:=by simp
   go_wp2_with fail;refine (x.out).mono ?_;rintro e w2 ⟨rfl,c⟩;have z:=hid (C.out.trans (c.mono B));have Y:=hid (V.out.below c);clear x c C V G ai t1 am;go_wp2_with fail;have Z:Hid (Big row k):=hid (by have:=Zt6 row;rw [HN.out] at this;exact this)
   go_loopw [3,6] (fun u t wr=>∃n:Nat,n<=k/\u=.slice q n s/\t=.string ⟨(ZV (L.take n)).toArray⟩/\Hid (Big row n)/\Hid (Zej wr (.slice q n s) (L.take n))/\Hid (Below w.heap.size w wr)) (fun u _ _=>Zsi u)
   case atStart=>exact ⟨k,Xc _,rfl,rfl,Z,Y,z⟩
   case round =>
    obtain ⟨n,av,rfl,rfl,HG,V,C⟩:=hrel;clear Z Y z;have B:=C.out.size;have a:ZV (L.take n)=Zdl (row.take n):=by rw [<- ab.out,<- List.map_take];rfl
    rw [a];have D:=Zc7 (Zdl (row.take n))
    by_cases g:32<(Zdl (row.take n)).length
    ·have ax:n≠0:=by intro h;subst h;simp [ZeU] at g
     obtain ⟨m,rfl⟩:∃m,n=m+1:=⟨n - 1,by omega⟩;have ar:=hid (ZwI HG.out g);have F:=hid (Zej.take V.out m (by omega));have af:(L.take (m+1)).take m=L.take m:=by rw [List.take_take,Xao (by omega)]
     rw [af] at F;have I:(L.take m).length=m:=by rw [Xi,aa.out];omega
     have x:=hid (UM.Zem _ _ wr (Zj3 F.out) (by rw [I];omega));obtain ⟨y,U⟩:∃y:ByteArray,y=⟨(Zdl (row.take (m+1))).toArray⟩:=⟨_,rfl⟩;rw [<- U] at D ⊢;have t1:decide ((y.size:Int)>32)=true:=by simp;omega
     have e1:((m+1:Nat):Int) - 1=(m:Int):=by omega
     have i2:(m:Int)<=(s:Int):=by omega
     clear D U HG V a g af;go_wp2_with fail;refine (x.out).mono ?_;rintro e w3 ⟨rfl,j⟩;have M:=hid (C.out.trans (j.mono B));have al:=hid (F.out.below j);clear j F x;go_wp2;go_roundw
     case rel=>exact ⟨m,by omega,rfl,rfl,ar,al,M⟩
     case measure=>simp [Zsi]
    ·have HF:=hid (Zz8 (row:=row) (n:=n) (by omega) (by have:=HN.out;omega) HG.out (by omega));obtain ⟨y,U⟩:∃y:ByteArray,y=⟨(Zdl (row.take n)).toArray⟩:=⟨_,rfl⟩;rw [<- U] at D ⊢;have t1:decide ((y.size:Int)>32)=false:=by simp;omega
     have HY:=hid U;clear D U HG V a g;go_wp2_with fail;go_ret;unfold ZoS;rw [HF.out,HY.out];exact ⟨rfl,C.out⟩
theorem Zq0 (v:Value) (row:List Int) (w:World) (L:Zej w v row) (hl:row.length<=1000000):Calls prog 121 #[v] w (ZoS (Zfw row) w):=by
 obtain ⟨p,U,rfl,aa,N⟩:=L.shape;unfold maxLen at N;have V:=hid L;have s:Hid (Below w.heap.size w w):=hid (Below.refl _ _);have C:Hid (([]:Xu)++ZeK (32 - ([]:Xu).length) (row.drop 0)=Zfw row/\([]:Xu).length<=32):=hid ⟨rfl,by simp⟩;clear L;go_enter func121,ntmps121;go_wp2_with fail
 go_loopw [3,4] (fun t i wr=>∃(k:Nat) (x:Xu),k<=row.length/\i=.int .i64 k/\t=.string ⟨x.toArray⟩/\Hid (x++ZeK (32 - x.length) (row.drop k)=Zfw row/\x.length<=32)/\Hid (Below w.heap.size w wr)) (fun _ i _=>row.length - (intOf i).toNat)
 case atStart=>exact ⟨0,[],by omega,rfl,rfl,C,s⟩
 case round =>
  obtain ⟨k,x,hk,rfl,rfl,D,F⟩:=hrel;clear C s;have M:=F.out.size
  by_cases j:k<row.length
  ·have t1:decide ((k:Int)<(row.length:Int))=true:=by simp;omega
   obtain ⟨b,off,rfl,H,f⟩:=V.out.at_ j;have g:=(F.out.cell (p:=⟨b,off+k,none⟩) H).trans f;have B:row.drop k=row.getD k 0::row.drop (k+1):=by rw [X9 j];simp [List.getD,j]
   have hs:=D.out;rw [B,ZeK] at hs;have d:=fun W=>UM.ZsG (row.getD k 0) W;obtain ⟨r,l⟩:=Xn (row.getD k 0);rw [l] at g hs;simp only [l] at d;have HL:=hid d;have m:=hid hs;clear f d l B hs D;go_wp2_with fail;refine (HL.out _).mono ?_;rintro e w2 ⟨rfl,rfl⟩;have h:Zej (wr.alloc (.cells #[.int .i64 (ZR r)] 3)) (.slice (some ⟨wr.heap.size,0,none⟩) 1 1) [ZR r]:=Row.of_own (ZdN wr [.int .i64 (ZR r)] 3 0 (XU _) (by unfold maxLen;simp));have u:=hid (UM.Zdh _ _ _ (Zj3 h) (by simp));have S:Below wr.heap.size wr (wr.alloc (.cells #[.int .i64 (ZR r)] 3)):=(Below.refl _ _).alloc (Xc _) _;have A:=hid (F.out.trans (S.mono M));clear h S;go_wp2_with fail;refine (u.out).mono ?_;rintro e w3 ⟨rfl,o⟩;rw [show ZV [ZR r]=Zfz r by simp [ZV,Zfz]];have q:=hid (A.out.trans (o.mono (by simp;omega)));clear A o u HL;have I:=Zc7 x;have O:=Zc7 (Zfz r);have a:=ZfI x (Zfz r);obtain ⟨X,G⟩:∃y:ByteArray,y=⟨x.toArray⟩:=⟨_,rfl⟩;obtain ⟨Y,J⟩:∃y:ByteArray,y=⟨(Zfz r).toArray⟩:=⟨_,rfl⟩;obtain ⟨Z,E⟩:∃y:ByteArray,y=⟨(x++Zfz r).toArray⟩:=⟨_,rfl⟩;rw [<- G] at I a ⊢;rw [<- J] at O a ⊢;rw [<- E] at a;have hs:=m.out;have ab:=(Zjb r).2;have T:=hs.2
   by_cases c:(Zfz r).length<=32 - x.length
   ·rw [Xe c] at hs;have t2:decide (32<(x.length:Int)+((Zfz r).length:Int))=false:=by simp;omega
    have z:Hid ((x++Zfz r)++ZeK (32 - (x++Zfz r).length) (row.drop (k+1))=Zfw row/\(x++Zfz r).length<=32):=hid ⟨by rw [<- hs.1,Xl,Xd,Nat.sub_sub],by rw [Xd];omega⟩;have HZ:=hid E;have HC:=hid a;clear hs m c G J E a;go_wp2_with fail;rw [HC.out,HZ.out];go_roundw
    case rel=>exact ⟨k+1,_,by omega,by go_num,rfl,z,q⟩
    case measure=>simp [intOf];omega
   ·rw [Xa c] at hs;have t2:decide (32<(x.length:Int)+((Zfz r).length:Int))=true:=by simp;omega
    have z:Hid (x=Zfw row):=hid (by rw [<- hs.1,XI]);have R:=hid G;clear hs m c G J E a;go_wp2_with fail;go_ret;rw [R.out,z.out];exact ⟨rfl,q.out⟩
  ·obtain rfl:k=row.length:=by omega
   have t1:decide ((row.length:Int)<(row.length:Int))=false:=by simp
   have hs:=D.out.1;rw [Xae,ZeK,XI] at hs;have z:=hid hs;clear hs D;go_wp2_with fail;go_ret;rw [z.out];exact ⟨rfl,F.out⟩
end TK
namespace TK
open RowKit MM
open UM (ZR ZU ZV runesL)
variable {B n cap k b off:Nat} {w:World} {v:Value} {zs all rest:List Int} {p:Option Addr} {ss:List Xu}
def IIn (B:Nat) (w:World) (v:Value) (zs:List Int):Prop:=Za0 B w v (zs.map (Value.int .i64))
theorem IIn.below {w':World} (h:IIn B w v zs) (a:Below B w w'):IIn B w' v zs:=Za0.below h a
theorem IIn.row (h:IIn B w v zs) (a:B<=w.heap.size):Zej w v zs:=Za0.mono h a
theorem IIn.shape (h:IIn B w v zs):∃p cap,v=.slice p zs.length cap/\zs.length<=cap/\cap<=maxLen:=by
 obtain ⟨p,cap,a,c,d,_,_⟩:=h;rw [XE] at a c;exact ⟨p,cap,a,c,d⟩
theorem IIn.at_ (h:IIn B w (.slice p n cap) zs) (d:k<zs.length) :
  ∃b off,p=some ⟨b,off,none⟩/\b<B/\w.cell? ⟨b,off+k,none⟩=some (.int .i64 (zs.getD k 0)):=by
 obtain ⟨p',cap',c,_,_,_,h⟩:=h;simp only [Value.slice.injEq] at c;obtain ⟨rfl,_,_⟩:=c;rcases h with h|⟨b,off,f,a,e⟩
 ·have:zs=[]:=Xbe.1 h;subst this;simp at d
 ·exact ⟨b,off,f,a,e k _ (by simp [List.getD,d])⟩
theorem IIn.take (h:IIn B w (.slice p n cap) zs) (k:Nat) (a:k<=n):IIn B w (.slice p k cap) (zs.take k):=by
 have:=Za0.take h k a;rw [<- List.map_take] at this;exact this
theorem IIn.drop2 (h:IIn B w (.slice (some ⟨b,off,none⟩) n cap) zs) (k:Nat) (d:k<=n) :
  (cap=k->IIn B w (.slice (some ⟨b,off,none⟩) (n - k) 0) (zs.drop k))/\(¬cap=k->IIn B w (.slice (some ⟨b,off+k,none⟩) (n - k) (cap - k)) (zs.drop k)):=by
 have a:=Za0.drop h k d;rw [<- List.map_drop] at a;constructor
 ·intro c;rw [Xe c,c,Xas] at a;exact a
 ·intro c;rw [Xa c,Xai,ZY] at a;exact a
theorem IIn.drop3 (h:IIn B w (.slice (some ⟨b,off,none⟩) n cap) zs) (k:Nat) (c:k<=n) :
  IIn B w (.slice (if cap=k then some ⟨b,off,none⟩ else some ⟨b,off+k,none⟩) (n - k) (cap - k)) (zs.drop k):=by
 have a:=Za0.drop h k c;rw [<- List.map_drop,Xai,ZY] at a;exact a
def ZwD (B:Nat) (ss:List Xu) (w:World) (e:Ending) (w':World):Prop:=∃v,e=.returned v/\ZeE B w' v ss/\Below B w w'
theorem Zrn (B:Nat) (u:Value) (ss:List Xu) (v:Value) (zs:List Int) (w:World) (s:B<=w.heap.size) (a:ZeE B w u ss) (i:Zej w v zs) (t:zs.length<=1000000) (hs:ss.length<=1000000) :
  Calls prog 271 #[u,v] w (ZwD B (ss++(one zs).map Zfw) w):=by
 obtain ⟨p,cap,rfl,x,z⟩:=i.shape
 by_cases j:zs=[]
 ·subst j;rw [Zpg,XV,XI];have l:=hid a;clear a i;go_enter func271,ntmps271;go_wp2_with fail;go_ret;exact ⟨_,rfl,l.out,Below.refl _ _⟩
 ·have r:=hid (Zs3 _ _ _ i t);have A:=Xac.2 j;have t1:((zs.length:Int) == 0)=false:=by simp;omega
  rw [Zpf j,Xbs];have l:=hid a;clear a i j;go_enter func271,ntmps271;go_wp2_with fail;refine r.out.mono ?_;rintro e y ⟨rfl,d⟩;have o:=hid (l.out.keep d);have g:=hid (d.mono s);have h:=g.out.size;clear d r;go_wp2_with (at_builtin;refine ZjE rfl _ _ rfl B u ss y (Zfw zs) rfl rfl o.out rfl (by omega) (Xx s h) ?_)
  intro v3 w3 c f;have q:=hid c;have m:=hid (g.out.trans f);clear c f;go_wp2_with fail;go_ret;exact ⟨_,rfl,q.out,m.out⟩
def Zt3 (ss:List Xu) (w:World) (e:Ending) (w':World):Prop:=∃v,e=.returned v/\ZeE w.heap.size w' v ss/\Below w.heap.size w w'
def Far (all rest:List Int) (ss:List Xu):Prop:=ss++Zbi rest=Zbi all/\ss.length+rest.length<=all.length
theorem Zqe (h:Far all rest ss) (c:k<rest.length) (f:∀r∈rest.take k,ZU r=true) (d:ZU (rest.getD k 0)=false):Far all (rest.drop (k+1)) (ss++(one (rest.take k)).map Zfw):=by
 have e:rest=rest.take k++rest.getD k 0::rest.drop (k+1):=by
  have a:=X6 k rest;rw [X9 c] at a;rw [<- a];simp [List.getD,c]
 have a:Zbi rest=(one (rest.take k)).map Zfw++Zbi (rest.drop (k+1)):=by
  conv=>lhs;rw [e]
  unfold Zbi;rw [ZiF f d,XN]
 refine ⟨by rw [Xl,<- a];exact h.1,?_⟩;have h2:=h.2;have h3:(one (rest.take k)).length<=1:=by unfold one;split<;>simp
 rw [Xd,XE,Xj];omega
theorem ZAt (h:Far all rest ss) (a:∀r∈rest,ZU r=true):ss++(one rest).map Zfw=Zbi all:=by
 rw [<- h.1];congr 1
 unfold Zbi;rw [Zkg a]
theorem ZoI (a:k<rest.length) (d:∀r∈rest.take k,ZU r=true) (c:ZU (rest.getD k 0)=true):∀r∈rest.take (k+1),ZU r=true:=by
 intro r h;rw [XG a,Xak] at h;rcases h with h|h
 ·exact d r h
 ·simp at h;subst h;simpa [List.getD,a] using c
theorem Zwi (s:ByteArray) (w:World) (hs:s.size<=1000000):Calls prog 249 #[.string s] w (Zt3 (Z6 s.data.toList) w):=by
 have h:=UM.ZvI s w hs;have x:=UM.ZfC s.data.toList;rw [<- Lib.size_eq] at x;unfold UM.Zeq at h;unfold Z6;obtain ⟨zs,C⟩:=Xn (runesL s.data.toList);rw [C] at h x ⊢;have HR:=hid h;have ak:zs.length<=1000000:=by omega
 clear h C x;go_enter func249,ntmps249;go_wp2_with fail
 go_step3
 go_wp2_with fail;refine HR.out.mono ?_;rintro e f ⟨v,rfl,E,N⟩;have V:IIn f.heap.size f v zs:=Ze3.irow E;have Y:=hid V;have ab:=hid N;have j:=N.size;have T:Hid (ZeE f.heap.size f (.slice none 0 0) []):=hid (ZeE.nil_ _ _);have Z:Hid (Far zs zs []):=hid ⟨rfl,by simp⟩;have U:Hid (Below f.heap.size f f):=hid (Below.refl _ _);clear V E N HR;go_wp2_with fail
 go_step3
 go_wp2_with fail
 go_loopw [3,4] (fun u t wr=>∃(rest:List Int) (ss:List Xu),Hid (Far zs rest ss)/\Hid (IIn f.heap.size wr t rest)/\Hid (ZeE f.heap.size wr u ss)/\Hid (Below f.heap.size f wr)) (fun _ t _=>Zsi t)
 case atStart=>exact ⟨zs,[],Z,Y,T,U⟩
 case round =>
  obtain ⟨rest,ss,X,G,H,L⟩:=hrel;clear Z Y T U;obtain ⟨p,cap,rfl,am,af⟩:=G.out.shape;unfold maxLen at af;have ad:=X.out.2
  by_cases M:rest=[]
  ·subst M;have hf:=X.out.1;have e0:Zbi []=[]:=rfl;rw [e0,XI] at hf;subst hf;have ah:=hid (H.out.weaken j);have ae:=hid (ab.out.trans (L.out.mono j));clear H G X ad;go_wp2_with fail;go_ret;exact ⟨_,rfl,ah.out,ae.out⟩
  ·have an:=Xac.2 M;have t1:decide ((rest.length:Int)>0)=true:=by simp;omega
   have ac:Hid (∀r∈rest.take 0,ZU r=true):=hid (by simp);clear M;go_wp2_with fail
   go_loopw [3,4,14] (fun u t i wr=>∃k:Nat,k<=rest.length/\i=.int .i64 k/\t=.slice p rest.length cap/\Hid (∀r∈rest.take k,ZU r=true)/\Hid (IIn f.heap.size wr (.slice p rest.length cap) rest)/\Hid (ZeE f.heap.size wr u ss)/\Hid (Below f.heap.size f wr)) (fun _ _ i _=>rest.length - (intOf i).toNat)
   case atStart=>exact ⟨0,by omega,rfl,rfl,ac,G,H,L⟩
   case round =>
    obtain ⟨k,hk,rfl,rfl,HW,G,H,L⟩:=hrel;clear ac;have m:=L.out.size
    by_cases I:k<rest.length
    ·have t2:decide ((k:Int)<(rest.length:Int))=true:=by simp;omega
     obtain ⟨b,off,rfl,al,g⟩:=G.out.at_ I;have a:=fun W=>UM.ZzG (rest.getD k 0) W;obtain ⟨r,o⟩:=Xn (rest.getD k 0);rw [o] at g;simp only [o] at a;cases C:ZU r with
     | true =>
       simp only [C] at a;have ai:=hid (ZoI I HW.out (by rw [o];exact C));have z:=hid a;clear a C o HW;go_wp2_with fail;refine (z.out _).mono ?_;rintro e w2 ⟨rfl,d⟩;have D:=hid (L.out.trans (d.mono m));have O:=hid (H.out.keep d);have A:=hid (G.out.below (d.mono m));clear d z g;go_wp2_with fail;go_roundw
       case rel=>exact ⟨k+1,by omega,by go_num,rfl,ai,A,O,D⟩
       case measure=>simp [intOf];omega
     | false =>
       simp only [C] at a;have aj:=hid (Zqe X.out I HW.out (by rw [o];exact C));have z:=hid a;have i1:(k:Int)<=(cap:Int):=by omega
       have i2:(k:Int)+1<=(rest.length:Int):=by omega
       have i3:(rest.length:Int)<=(cap:Int):=by omega
       clear a C o HW;go_wp2_with fail;refine (z.out _).mono ?_;rintro e w2 ⟨rfl,d⟩;have D:=hid (L.out.trans (d.mono m));have O:=hid (H.out.keep d);have A:=hid (G.out.below (d.mono m));have F:=D.out.size;clear d z g;have q:=Zrn f.heap.size _ ss _ _ w2 F O.out ((A.out.take k (by omega)).row F) (by rw [Xi];omega) (by omega);have y:=hid q;clear q;go_wp2_with fail;refine y.out.mono ?_;rintro e w3 ⟨v3,rfl,c,l⟩;have R:=hid c;have J:=hid (D.out.trans l);have ag:=hid ((A.out.below l).drop3 (k+1) (by omega));clear c l y;go_wp2_with fail;go_roundw
       case rel=>exact ⟨_,_,aj,ag,R,J⟩
       case measure=>simp [Zsi];omega
    ·obtain rfl:k=rest.length:=by omega
     have t2:decide ((rest.length:Int)<(rest.length:Int))=false:=by simp
     have S:=HW.out;rw [XC] at S;have aa:=ZAt X.out S;have q:=Zrn f.heap.size _ ss _ _ wr m H.out (G.out.row m) (by omega) (by omega);rw [aa] at q;have y:=hid q;clear q S aa;go_wp2_with fail;refine y.out.mono ?_;rintro e w3 ⟨v3,rfl,c,l⟩;have R:=hid (c.weaken j);have J:=hid (ab.out.trans ((L.out.trans l).mono j));clear c l y;go_wp2_with fail;go_ret;exact ⟨_,rfl,R.out,J.out⟩
