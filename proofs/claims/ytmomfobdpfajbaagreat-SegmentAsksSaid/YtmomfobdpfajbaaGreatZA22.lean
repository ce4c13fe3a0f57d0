import Derived.Test.YtmomfobdpfajbaaGreatZA12
import Derived.Test.YtmomfobdpfajbaaGreatZA20
import Derived.Test.YtmomfobdpfajbaaGreatZA9
import Derived.Test.YtmomfobdpfajbaaGreatZA21
set_option maxRecDepth 100000
set_option maxHeartbeats 0
set_option linter.unusedVariables false
set_option linter.unusedSimpArgs false
namespace Go.Proofs.YtmomfobdpfajbaaGreat
open Tryz
namespace DT
open RowKit MM DM VM
open EM (Zg Zbc Zaq ZaC Zew)
theorem Zhd {m:Nat} {l:Xu} (o:Bool) (h:(Zs l).2.2=0) (a:(Zs l).1<=m):Ze m l o=((Zs l).1,l.drop (Zs l).2.1,o):=by
 unfold Ze VG.Zau;rw [Xe ⟨h,a⟩,Xe h]
theorem ZbS (m:Nat) (l:Xu) (o:Bool):(Ze m l o).1<=m:=by
 unfold Ze
 split
 ·rename_i h;exact h.2
 ·exact XX _
theorem ZdN {n m:Nat} (h:n<=m) (a:n<18446744073709551616) (r:Xu) (o:Bool):Ze m (Zb n++r) o=(n,r,o):=by
 have e:=ZdU n a r;rw [Zhd o (by rw [e]) (by rw [e];exact h),e];dsimp only;rw [Xas]
theorem ZcK {m:Nat} {l:Xu} {o:Bool} (h:(Ze m l o).2.2=false):o=false/\Zb (Ze m l o).1++(Ze m l o).2.1=l:=by
 by_cases a:(Zs l).2.2=0/\(Zs l).1<=m
 ·rw [Zhd o a.1 a.2] at h ⊢;exact ⟨h,ZdC (XaL rfl (XaL rfl a.1))⟩
 ·unfold Ze at h;rw [Xc a] at h;cases h
theorem Zhz {m:Int} {l:Xu} (o:Bool) (h:(Zah l m).2.2=0):Z6 m l o=((Zah l m).1,l.drop (Zah l m).2.1,o):=by
 unfold Z6 VG.Zei;rw [Xe h,h];simp
theorem Zuv {s:Xu} {m:Int} (h:(s.length:Int)<=m) (hs:s.length<18446744073709551616) (r:Xu) (o:Bool):Z6 m (Z5 s++r) o=(s,r,o):=by
 have e:=Zjb s hs m h r;rw [Zhz o (by rw [e]),e];dsimp only;rw [Xas]
theorem ZrQ {m:Int} {l:Xu} {o:Bool} (h:(Z6 m l o).2.2=false):o=false/\Z5 (Z6 m l o).1++(Z6 m l o).2.1=l:=by
 by_cases a:(Zah l m).2.2=0
 ·rw [Zhz o a] at h ⊢;exact ⟨h,(Zew (XaL rfl (XaL rfl a))).1⟩
 ·unfold Z6 at h;have:((Zah l m).2.2 != 0)=true:=by rw [Xah];exact a
  rw [this] at h;simp at h
theorem ZpL (m:Int) (l:Xu) (o:Bool):((Z6 m l o).1.length:Int)<=max 0 m:=by
 have:(Z6 m l o).1=(Zah l m).1:=rfl;rw [this]
 by_cases a:(Zah l m).2.2=0
 ·exact (Zew (XaL rfl (XaL rfl a))).2.1
 ·unfold Zah at a ⊢
  split
  ·simp;omega
  ·split
   ·simp;omega
   ·split
    ·simp;omega
    ·rename_i d c b;rw [Xc d,Xc c,Xc b] at a;exact absurd rfl a
def okW (x:ZN):Prop:=x.1.length<=65/\(0<=x.2.1/\x.2.1<=67108864)/\(0<=x.2.2.1/\x.2.2.1<=67108864)/\(0<=x.2.2.2/\x.2.2.2<=67108864)
theorem ZyR {x:ZN}:okX x=true↔1<=x.1.length/\okW x:=by
 rw [Zfb];unfold okW;constructor
 ·rintro ⟨⟨a,c⟩,b⟩;exact ⟨a,c,b⟩
 ·rintro ⟨a,c,b⟩;exact ⟨⟨a,c⟩,b⟩
def Zdi (a l:Xu) (o:Bool):Xu×Xu×Bool :=
 (a.take (Ze a.length l o).1++(Z6 (65 - ((Ze a.length l o).1:Int)) (Ze a.length l o).2.1 (Ze a.length l o).2.2).1,(Z6 (65 - ((Ze a.length l o).1:Int)) (Ze a.length l o).2.1 (Ze a.length l o).2.2).2)
def ZbQ (a l:Xu) (o:Bool):Xu×Bool :=
 if ZL a (Zdi a l o).1=(Ze a.length l o).1 then (Zdi a l o).2 else ([],true)
def Zcp (l:Xu) (o:Bool):(Nat×Nat×Nat)×Xu×Bool :=
 (((Ze 67108864 l o).1,(Ze 67108864 (Ze 67108864 l o).2.1 (Ze 67108864 l o).2.2).1,(Ze 67108864 (Ze 67108864 (Ze 67108864 l o).2.1 (Ze 67108864 l o).2.2).2.1 (Ze 67108864 (Ze 67108864 l o).2.1 (Ze 67108864 l o).2.2).2.2).1),
   (Ze 67108864 (Ze 67108864 (Ze 67108864 l o).2.1 (Ze 67108864 l o).2.2).2.1 (Ze 67108864 (Ze 67108864 l o).2.1 (Ze 67108864 l o).2.2).2.2).2)
def Zce (a l:Xu) (o:Bool):ZN×Xu×Bool :=
 (((Zdi a l o).1,((Zcp (ZbQ a l o).1 (ZbQ a l o).2).1.1:Int),((Zcp (ZbQ a l o).1 (ZbQ a l o).2).1.2.1:Int),((Zcp (ZbQ a l o).1 (ZbQ a l o).2).1.2.2:Int)),(Zcp (ZbQ a l o).1 (ZbQ a l o).2).2)
theorem ZzL {a b c:Nat} (f:a<=67108864) (d:b<=67108864) (e:c<=67108864) (r:Xu) (o:Bool):Zcp (Zb a++(Zb b++(Zb c++r))) o=((a,b,c),r,o):=by
 unfold Zcp;rw [ZdN f (by omega)];dsimp only;rw [ZdN d (by omega)];dsimp only;rw [ZdN e (by omega)]
theorem Zwu {l:Xu} {o:Bool} (h:(Zcp l o).2.2=false):o=false/\Zb (Zcp l o).1.1++(Zb (Zcp l o).1.2.1++(Zb (Zcp l o).1.2.2++(Zcp l o).2.1))=l:=by
 unfold Zcp at h ⊢;dsimp only at h ⊢;obtain ⟨d,a⟩:=ZcK h;obtain ⟨f,e⟩:=ZcK d;obtain ⟨b,c⟩:=ZcK f;refine ⟨b,?_⟩;rw [a,e,c]
theorem ZB1 (l:Xu) (o:Bool):(Zcp l o).1.1<=67108864/\(Zcp l o).1.2.1<=67108864/\(Zcp l o).1.2.2<=67108864:=⟨ZbS _ _ _,ZbS _ _ _,ZbS _ _ _⟩
theorem ZzF {a:Xu} (ha:a.length<=65) (l:Xu) (o:Bool):(Zdi a l o).1.length<=65:=by
 unfold Zdi;have h1:=ZbS a.length l o;generalize Ze a.length l o=s at *;have h2:=ZpL (65 - (s.1:Int)) s.2.1 s.2.2;dsimp only;rw [Xd,Xi];omega
theorem ZB9 {a:Xu} (b:a.length<=65) (l:Xu) (o:Bool):okW (Zce a l o).1:=by
 have h:=ZB1 (ZbQ a l o).1 (ZbQ a l o).2;have h2:=ZzF b l o;unfold Zce okW;dsimp only;omega
theorem ZAG {a:Xu} {x:ZN} (h:okW x) (ha:a.length<=65) (r:Xu) (o:Bool):Zce a (Zea a x++r) o=(x,r,o):=by
 obtain ⟨h1,g,f,d⟩:=h;have hs:=ZdL a x.1
 have b:Ze a.length (Zea a x++r) o=(ZL a x.1,(Z5 (x.1.drop (ZL a x.1))++(Zb x.2.1.toNat++(Zb x.2.2.1.toNat++(Zb x.2.2.2.toNat++r)))),o):=by
  unfold Zea;simp only [Xk];exact ZdN hs.1 (by omega) _ _
 have c:Zdi a (Zea a x++r) o=(x.1,(Zb x.2.1.toNat++(Zb x.2.2.1.toNat++(Zb x.2.2.2.toNat++r))),o):=by
  unfold Zdi;rw [b];dsimp only;rw [Zuv (by rw [Xp];omega) (by rw [Xp];omega)];dsimp only;rw [Zgw,X8]
 have e:ZbQ a (Zea a x++r) o=((Zb x.2.1.toNat++(Zb x.2.2.1.toNat++(Zb x.2.2.2.toNat++r))),o):=by
  unfold ZbQ;rw [b,c];dsimp only;rw [Xe rfl]
 unfold Zce;rw [e,c];dsimp only;rw [ZzL (by omega) (by omega) (by omega)];obtain ⟨t,p,m,n⟩:=x;dsimp only at g f d ⊢;rw [show ((p.toNat:Nat):Int)=p by omega,show ((m.toNat:Nat):Int)=m by omega,show ((n.toNat:Nat):Int)=n by omega]
theorem ZxN {a l:Xu} {o:Bool} (h:(Zce a l o).2.2=false):o=false/\Zea a (Zce a l o).1++(Zce a l o).2.1=l:=by
 have d:(Zcp (ZbQ a l o).1 (ZbQ a l o).2).2.2=false:=h;obtain ⟨b,c⟩:=Zwu d;unfold ZbQ at b
 by_cases hs:ZL a (Zdi a l o).1=(Ze a.length l o).1
 ·rw [Xe hs] at b;have j:ZbQ a l o=(Zdi a l o).2:=by unfold ZbQ;rw [Xe hs]
  obtain ⟨f,i⟩:=ZrQ (show (Z6 (65 - ((Ze a.length l o).1:Int)) (Ze a.length l o).2.1 (Ze a.length l o).2.2).2.2=false from b);obtain ⟨e,k⟩:=ZcK f;refine ⟨e,?_⟩;unfold Zea Zce;dsimp only;rw [hs];simp only [Xk,XY];rw [c,j]
  have g:(Zdi a l o).1.drop (Ze a.length l o).1=(Z6 (65 - ((Ze a.length l o).1:Int)) (Ze a.length l o).2.1 (Ze a.length l o).2.2).1:=by
   unfold Zdi;dsimp only;have:=ZbS a.length l o;rw [List.drop_append,Xao (by rw [Xi];omega),XE,Xi,Xan this,Xaw,Xap]
  rw [g];rw [show (Zdi a l o).2.1=(Z6 (65 - ((Ze a.length l o).1:Int)) (Ze a.length l o).2.1 (Ze a.length l o).2.2).2.1 from rfl,i,k]
 ·rw [Xc hs] at b;cases b
def ZaM:Nat->Xu->List ZN->Xu->Bool->List ZN×Xu×Bool
 | 0,_,acc,l,o=>(acc,l,o)
 | f+1,a,acc,l,o=>if l=[] then (acc,l,o) else ZaM f (Zce a l o).1.1 (acc++[(Zce a l o).1]) (Zce a l o).2.1 (Zce a l o).2.2
theorem ZxM (a:Xu) (x:ZN):Zea a x≠[]:=fun h=>by
 have b:=(Zc (ZL a x.1)).1;have:=Xr List.length h;unfold Zea at this;simp at this;rw [this.1] at b;simp at b
theorem Zl5:∀(l:List ZN) (f:Nat) (a:Xu) (b:List ZN) (o:Bool),(∀x∈l,okW x)->a.length<=65->l.length<=f->ZaM f a b (ZA a l) o=(b++l,[],o)
 | [],0,a,b,o,_,_,_=>by simp [ZaM,ZA]
 | [],f+1,a,b,o,_,_,_=>by simp [ZaM,ZA]
 | x::l,0,a,b,o,_,_,h=>by simp at h
 | x::l,f+1,a,b,o,h,ha,hf=>by
   have c:=h x (by simp);rw [ZaM,ZA,Xc (fun e=>ZxM a x (List.append_eq_nil_iff.1 e).1),ZAG c ha];dsimp only;rw [Zl5 l f x.1 (b++[x]) o (fun y d=>h y (by simp [d])) c.1 (by simpa using hf),Xk];rfl
theorem ZjW:∀(f:Nat) (a:Xu) (b:List ZN) (l:Xu) (o:Bool),a.length<=65->(ZaM f a b l o).2.1=[]->(ZaM f a b l o).2.2=false ->
  o=false/\∃m,(ZaM f a b l o).1=b++m/\ZA a m=l/\m.length<=f/\∀x∈m,okW x
 | 0,a,b,l,o,ha,h1,h2=>by
   rw [ZaM] at h1 h2 ⊢;exact ⟨h2,[],by simp,by rw [show l=[] from h1];rfl,by simp,by simp⟩
 | f+1,a,b,l,o,ha,h1,h2=>by
   rw [ZaM] at h1 h2 ⊢
   by_cases c:l=[]
   ·rw [Xe c] at h1 h2 ⊢;exact ⟨h2,[],by simp,by rw [c];rfl,by simp,by simp⟩
   ·rw [Xc c] at h1 h2 ⊢;have e:=ZB9 ha l o;obtain ⟨i,m,g,n,k,p⟩:=ZjW f _ _ _ _ e.1 h1 h2;obtain ⟨h,j⟩:=ZxN i;refine ⟨h,(Zce a l o).1::m,by rw [g];simp,by rw [ZA,n,j],by simpa using k,fun x d => ?_⟩;rcases XT.1 d with rfl|d
    ·exact e
    ·exact p x d
def Za2:Xu->List ZN->Bool
 | _,[]=>true
 | t,x::r=>Zg t x.1&&Za2 x.1 r
theorem Zyu {t:Xu} (h:1<=t.length):Zg [] t=true:=by
 cases t with
 | nil=>simp at h
 | cons a t=>rfl
theorem Zyv {t u:Xu} (h:Zg t u=true):1<=u.length:=by
 cases u with
 | nil=>cases t<;>simp [Zg] at h
 | cons a u=>simp
theorem ZjL:∀(l:List ZN) (t:Xu),ZfY (some t) l=true↔(∀x∈l,okW x)/\Za2 t l=true
 | [],t=>by simp [ZfY,Za2]
 | x::r,t=>by
   rw [Zdt,Za2,Xw,Xw,Xw,ZjL r x.1,ZyR];simp only [XT,forall_eq_or_imp];constructor
   ·rintro ⟨⟨⟨_,b⟩,a⟩,d,c⟩;exact ⟨⟨b,d⟩,a,c⟩
   ·rintro ⟨⟨b,d⟩,a,c⟩;exact ⟨⟨⟨Zyv a,b⟩,a⟩,d,c⟩
theorem ZhF (l:List ZN):ZfY none l=true↔(∀x∈l,okW x)/\Za2 [] l=true:=by
 rw [<- ZjL];cases l with
 | nil=>simp [ZfY]
 | cons x r =>
   rw [Zdt,Zdt]
   by_cases h:okX x=true
   ·have a:ZmZ (some []) x.1=true:=Zyu (ZyR.1 h).1;rw [a];rfl
   ·have:okX x=false:=by simpa using h
    rw [this];simp
theorem Zkj:∀(l m:List ZN) (t:Xu),Za2 t (l++m)=(Za2 t l&&Za2 ((l.getLast?.map (·.1)).getD t) m)
 | [],m,t=>by simp [Za2]
 | x::l,m,t=>by
   rw [XK,Za2,Za2,Zkj l m x.1,Xbj];cases l<;>simp [List.getLast?_cons]
def ZG (l:List ZN):List (List ZN):=(List.range (Zr l)).map (Zw l)
def Ze2 (c:List ZN):Xu:=Z5 (ZA [] c)
theorem ZgY (l:List ZN):ZbD l=Zb l.length++(ZG l).flatMap Ze2:=by
 unfold ZbD ZbP ZG;rw [Xap,List.flatMap_map];rfl
theorem Zcs:ZG []=[]:=rfl
theorem Zh6 {c m:List ZN} (h0:0<c.length) (h:c.length=16\/(c.length<=16/\m=[])):ZG (c++m)=c::ZG m:=by
 have b:Zr (c++m)=Zr m+1:=by
  unfold Zr;rw [Xd];rcases h with h|⟨h,rfl⟩
  ·omega
  ·simp only [Xv];omega
 unfold ZG;rw [b,List.range_succ_eq_map,XC,List.map_map]
 have a:Zw (c++m) 0=c:=by
  unfold Zw;rw [XaY,Xap];rcases h with h|⟨h,rfl⟩
  ·rw [<- h,Xbm]
  ·rw [XH,XO h]
 rw [a];congr 1
 apply List.map_congr_left;intro j d
 show Zw (c++m) (j+1)=Zw m j
 unfold Zw;rcases h with h|⟨h,rfl⟩
 ·rw [show 16*(j+1)=16+16*j by omega,<- h,<- XaI,Xas]
 ·simp [Zr] at d
theorem Zo8 (l:List ZN):(ZG l).length=Zr l:=by simp [ZG]
theorem Zqf {l:List ZN} {j:Nat} (h:j<(ZG l).length):(ZG l)[j]=Zw l j:=by simp [ZG]
theorem ZbO (l:List ZN) (j:Nat):(Zw l j).length=min 16 (l.length - 16*j):=by unfold Zw;rw [Xi,Xp]
theorem Zqd {l:List ZN} {j k:Nat} (h:k<(Zw l j).length):(Zw l j)[k]=l[16*j+k]'(by rw [ZbO] at h;omega):=by
 simp [Zw]
def ZcJ (t:Xu) (l:List ZN):Xu:=(l.getLast?.map (·.1)).getD t
def ZlI (n at_:Nat) (a:Xu) (e:List ZN×Xu×Bool):Bool := !e.2.2&&(decide (e.2.1=[])&&(decide (e.1.length=min 16 (n - at_))&&Za2 a e.1))
def ZaA:Nat->Nat->Nat->Xu->List (List ZN)->Xu->Bool->Option (List (List ZN)×Xu×Bool)
 | 0,_,_,_,acc,l,o=>some (acc,l,o)
 | f+1,n,at_,last,acc,l,o =>
   if at_<n then
    if ZlI n at_ last (ZaM 16 [] [] (Z6 l.length l o).1 false)=true then
     ZaA f n (at_+16) (ZcJ last (ZaM 16 [] [] (Z6 l.length l o).1 false).1) (acc++[(ZaM 16 [] [] (Z6 l.length l o).1 false).1]) (Z6 l.length l o).2.1 (Z6 l.length l o).2.2
    else none
   else some (acc,l,o)
theorem ZnF {n at_:Nat} {a:Xu} {e:List ZN×Xu×Bool}:ZlI n at_ a e=true↔e.2.2=false/\e.2.1=[]/\e.1.length=min 16 (n - at_)/\Za2 a e.1=true:=by
 unfold ZlI;rw [Xw,Xw,Xw,Xg,Xg];simp
theorem ZlT:∀(f:Nat) (m:List ZN) (n at_:Nat) (a:Xu) (b:List (List ZN)) (o:Bool),m.length=n - at_->n<=at_+16*f->(∀x∈m,okW x)->Za2 a m=true ->
  ZaA f n at_ a b ((ZG m).flatMap Ze2) o=some (b++ZG m,[],o)
 | 0,m,n,at_,a,b,o,hl,hf,hw,hr=>by
   have:m=[]:=XP (by omega);subst this;simp [ZaA,Zcs]
 | f+1,m,n,at_,a,b,o,hl,hf,hw,hr=>by
   rw [ZaA]
   by_cases h:at_<n
   ·rw [Xe h];have k:m.take 16++m.drop 16=m:=X8 _ _;have e:(m.take 16).length=min 16 (n - at_):=by rw [Xi,hl]
    have d:∀x∈m.take 16,okW x:=fun x j=>hw x (Xaq j);have g:∀x∈m.drop 16,okW x:=fun x j=>hw x (XaX j)
    have i:ZG m=m.take 16::ZG (m.drop 16):=by
     conv=>lhs;rw [<- k]
     refine Zh6 (by omega) ?_
     by_cases p:16<=m.length
     ·left;rw [Xi];omega
     ·right;exact ⟨by omega,Xao (by omega)⟩
    rw [<- k,Zkj,Xw] at hr
    have r:(ZA [] (m.take 16)).length<=1840+100000:=by
     by_cases c:∀x∈m.take 16,okX x=true
     ·have:=ZbM (m.take 16) [] c;rw [e] at this;omega
     ·exfalso;exact c ((ZlG ((ZjL _ _).2 ⟨d,hr.1⟩)))
    rw [i,XaP]
    have l:Z6 (((Ze2 (m.take 16)++(ZG (m.drop 16)).flatMap Ze2).length:Nat):Int) (Ze2 (m.take 16)++(ZG (m.drop 16)).flatMap Ze2) o=(ZA [] (m.take 16),(ZG (m.drop 16)).flatMap Ze2,o):=by
     unfold Ze2;refine Zuv ?_ (by omega) _ _;unfold Z5;simp only [Xd];omega
    have q:=Zl5 (m.take 16) 16 [] [] false d (by simp) (by omega);rw [l];dsimp only;rw [q,Xe (ZnF.2 ⟨rfl,rfl,by simpa using e,by simpa using hr.1⟩)];dsimp only;rw [XE];have:=ZlT f (m.drop 16) n (at_+16) (ZcJ a (m.take 16)) (b++[m.take 16]) o (by rw [Xp,hl];omega) (by omega) g hr.2;rw [this];simp
   ·rw [Xc h];have:m=[]:=XP (by omega);subst this;simp [Zcs]
theorem ZkE:∀(f n at_:Nat) (a:Xu) (d b:List (List ZN)) (l:Xu) (o:Bool),n<=at_+16*f->ZaA f n at_ a d l o=some (b,[],false) ->
  o=false/\∃m,b=d++ZG m/\m.length=n - at_/\(ZG m).flatMap Ze2=l/\(∀x∈m,okW x)/\Za2 a m=true
 | 0,n,at_,a,d,b,l,o,hf,h=>by
   rw [ZaA] at h;simp only [Xx,X9] at h;obtain ⟨rfl,rfl,rfl⟩:=h;exact ⟨rfl,[],by simp [Zcs],by simp;omega,by simp [Zcs],by simp,rfl⟩
 | f+1,n,at_,a,d,b,l,o,hf,h=>by
   rw [ZaA] at h
   by_cases e:at_<n
   ·rw [Xe e] at h
    by_cases j:ZlI n at_ a (ZaM 16 [] [] (Z6 l.length l o).1 false)=true
    ·rw [Xe j] at h;obtain ⟨y,z,p,k⟩:=ZnF.1 j;obtain ⟨_,c,c1,c2,c3,t⟩:=ZjW 16 [] [] (Z6 l.length l o).1 false (by simp) z y;rw [XE] at c1;rw [c1] at h p k;obtain ⟨B,m,C,s,v,r,q⟩:=ZkE f n (at_+16) _ _ _ _ _ (by omega) h;obtain ⟨w,A⟩:=ZrQ B
     have i:ZG (c++m)=c::ZG m:=by
      refine Zh6 (by omega) ?_
      by_cases u:16<=n - at_
      ·left;omega
      ·right;exact ⟨by omega,XP (by omega)⟩
     refine ⟨w,c++m,?_,?_,?_,?_,?_⟩
     ·rw [C,i];simp
     ·rw [Xd,p,s];omega
     ·rw [i,XaP,v];unfold Ze2;rw [c2,A]
     ·intro x g;rcases Xam.1 g with g|g
      ·exact t x g
      ·exact r x g
     ·rw [Zkj,k];exact q
    ·rw [Xc j] at h;cases h
   ·rw [Xc e] at h;simp only [Xx,X9] at h;obtain ⟨rfl,rfl,rfl⟩:=h;exact ⟨rfl,[],by simp [Zcs],by simp;omega,by simp [Zcs],by simp,rfl⟩
def Zhg (b:Xu):Option (Nat×List (List ZN)) :=
 match ZaA 16384 (Ze 262144 b false).1 0 [] [] (Ze 262144 b false).2.1 (Ze 262144 b false).2.2 with
 | none=>none
 | some (cs,l,o)=>if o=true\/l≠[] then none else some ((Ze 262144 b false).1,cs)
theorem Zhh {l:List ZN} (h:ZbC l=true):Zhg (ZbD l)=some (l.length,ZG l):=by
 unfold ZbC at h;rw [Xw,Xg,ZhF] at h;unfold Zhg;rw [ZgY,ZdN h.1 (by omega)];dsimp only;rw [ZlT 16384 l l.length 0 [] [] false (by omega) (by omega) h.2.1 h.2.2];simp
theorem ZvQ {b:Xu} {n:Nat} {g:List (List ZN)} (h:Zhg b=some (n,g)):∃l,ZbC l=true/\ZbD l=b/\n=l.length/\g=ZG l:=by
 have u:=ZbS 262144 b false;have f:=@ZcK 262144 b false;unfold Zhg at h;generalize Ze 262144 b false=s at *;cases hc:ZaA 16384 s.1 0 [] [] s.2.1 s.2.2 with
 | none=>rw [hc] at h;cases h
 | some p =>
   obtain ⟨d,i,j⟩:=p;rw [hc] at h;dsimp only at h
   by_cases c:j=true\/i≠[]
   ·rw [Xe c] at h;cases h
   ·rw [Xc c] at h;have o:j=false:=by simpa using fun e=>c (.inl e)
    have r:i=[]:=Xaz fun e=>c (.inr e);subst o r;obtain ⟨q,m,t,k3,v,w,k⟩:=ZkE 16384 s.1 0 [] [] d s.2.1 s.2.2 (by omega) hc;obtain ⟨_,e⟩:=f q;simp only [Xx,X9] at h;have a:m.length=s.1:=by omega
    refine ⟨m,?_,?_,by rw [<- h.1,a],by rw [<- h.2,t];rfl⟩
    ·unfold ZbC;rw [Xw,Xg,ZhF];exact ⟨by omega,w,k⟩
    ·rw [ZgY,a,v];exact e
theorem ZyY (b:Xu):Zhg b=(Znl b).map fun l=>(l.length,ZG l):=by
 cases h:Zhg b with
 | some p =>
   obtain ⟨n,cs⟩:=p;obtain ⟨l,a,c,e,d⟩:=ZvQ h;rw [Zxw.2 ⟨a,c⟩,e,d];rfl
 | none =>
   cases hd:Znl b with
   | none=>rfl
   | some l =>
     obtain ⟨a,c⟩:=ZnP hd;rw [<- c,Zhh a] at h;cases h
open RowKit MM DM VM VP GB
variable {i:Nat}
theorem Zaz (n:Nat):Zb n≠[]:=fun h=>by
 have:=Zc n;rw [h] at this;simp at this
theorem ZfW (s:Xu):Z5 s≠[]:=fun h=>Zaz _ (List.append_eq_nil_iff.1 h).1
theorem wp_append_own {B:Nat} {w:World} {o:Oper} {a:Act} {K:Act->World->Prop} {Q:Exit->Act->World->Prop} (s x:Operand)
  (n:o.op=.call { callee:=.builtin .append,args:=#[s,x],argTypes:=#[23,23] }) (v:Value) (l:Xu) (hs:a.eval s=v) (b:Zd B w v l) (p:B<=w.heap.size)
  (src:Value) (m:Xu) (q:a.eval x=src) (j:Zv w src m) (r:m≠[]) (d:l.length+m.length<=140737488355328)
  (h:∀v' w',Zd B w' v' (l++m)->Below B w w'->Kep (fun k=>k<B) w w'->K (a.put o.dst v') w'):o.wp prog a w K Q:=by
 refine Zeg s x n v l hs (Zd.zero b) src m q j r d fun v' w' t g => ?_;have f:∀k,v.ownBlock=some k->B<=k:=fun k c=>(World.ownsRow.lt b k c).1;have c:Kep (fun k=>k<B) w w':=g.kep.mono fun k c e=>by have:=f k e;omega
 refine h v' w' (Zd.from t fun k c => ?_) (c.below p fun k h=>h) c;rcases g.2 k c with e|e
 ·exact f k e
 ·omega
theorem Zd1 (z:Int) (w:World) (c:0<=z) (h1:z<=9223372036854775807):Calls prog 93 #[.int .i64 z] w (ZV w.heap.size (Zb z.toNat) w):=by
 obtain ⟨n,rfl⟩:=Xay c;have K:=Y4 (ZcW n w (by omega));have e:IntKind.u64.wrap (n:Int)=(n:Int):=by rw [IntKind.wrap_u64];omega
 rw [XY];go_enter func93,ntmps93;go_wp2_with fail;refine K.z.mono ?_;rintro e w1 ⟨v1,rfl,a,b⟩;have d:=Y4 a;clear a;go_wp2_with fail;go_ret;exact ⟨_,rfl,d.z,b⟩
theorem ZBP (t:Xu) (ht:t.length<=4096) (W:World):Calls prog 145 #[.string ⟨t.toArray⟩] W (ZV W.heap.size (Z5 t) W):=by
 have h:=ZoI ⟨t.toArray⟩ W (by rw [ZaX];omega);rw [ZcO] at h;exact h
theorem Zor (l:Xu) (k:Nat):(⟨l.toArray⟩:ByteArray).extract k l.length=⟨(l.drop k).toArray⟩:=by
 rw [ZhY,XO (by rw [Xp];exact Xa _)]
def Zml (l:List ZN) (i:Nat):Xu:=((l.take i).getLast?.map (·.1)).getD []
theorem Zmm {l:List ZN} (hi:i<l.length):Zml l (i+1)=l[i].1:=by
 unfold Zml;rw [XG hi,List.getLast?_append,List.getLast?_singleton];rfl
theorem Zvq {l:List ZN} (h:∀x∈l,okX x=true) (i:Nat):(Zml l i).length<=65:=by
 unfold Zml;cases e:(l.take i).getLast? with
 | none=>simp
 | some x=>exact ((Zfb.1 (h x (Xaq (List.mem_of_getLast? e)))).1.2)
theorem ZlJ {l:List ZN} (hi:i<l.length):ZA [] (l.take (i+1))=ZA [] (l.take i)++Zea (Zml l i) l[i]:=by
 rw [XG hi,Zkw];rfl
theorem ZiI (v:Value) (l:List ZN) (w:World) (hv:ZF Zbr w v l) (hx:∀x∈l,okX x=true) (hn:l.length<=262144):Calls prog 94 #[v] w (ZV w.heap.size (ZA [] l) w):=by
 obtain ⟨p,bj,rfl,bh,ba,_⟩:=hv.shape;unfold maxLen at ba;have bn:prog.follows .mixedOrders=true:=by kernel_rfl
 have HV:=Y4 hv;have HX:=Y4 hx;have ao:Y5 (ZA [] (l.take l.length)=ZA [] l):=Y4 (by rw [XB]);have a8:=Y4 (fun i=>ZbM (l.take i) [] (fun x h=>hx x (Xaq h)));have a1:Y5 (Zd w.heap.size w (.slice none 0 0) (ZA [] (l.take 0))):=Y4 (World.ownsRow_nil _ _ _ _);clear hv hx;go_enter func94,ntmps94;go_wp2_with fail
 go_loopw [3,4,5] (fun bv av iv wr=>∃(i:Nat) (A:Xu),i<=l.length/\iv=.int .i64 i/\av=.string ⟨A.toArray⟩/\Y5 (A=Zml l i)/\Y5 (Zd w.heap.size wr bv (ZA [] (l.take i)))/\Y5 (Below w.heap.size w wr)) (fun _ _ iv _=>l.length - (intOf iv).toNat)
 case atStart=>exact ⟨0,[],by omega,rfl,rfl,Y4 rfl,a1,Y4 (Below.refl _ _)⟩
 case round =>
  obtain ⟨i,A,hi,rfl,rfl,HA,HO,HB⟩:=hrel;clear a1
  by_cases y:i<l.length
  ·have q1:decide ((i:Int)<(l.length:Int))=true:=Xt;have q2:decide (i<l.length)=true:=Xt;have q3:(i:Int)<(l.length:Int):=by omega
   obtain ⟨b,off,bc,c,_,c1,c2,c3,c4⟩:=ZcU HV.z y;subst bc;have g:=ZlJ y;have aX:=Zmm y;have bi:=Zfb.1 (HX.z l[i] (XI y));have bp:A.length<=65:=by rw [HA.z];exact Zvq HX.z i
   have E:=a8.z (i+1);rw [<- HA.z] at g;rw [Xi] at E;generalize l[i]=X at *;obtain ⟨j,z1,z2,z3⟩:=X;dsimp only at *;unfold Zea at g;dsimp only at g;have be:=ZdL A j;have bf:=ZaX j;have ae:=fun W=>ZrA A j W (by omega) (by omega);obtain ⟨k,hk⟩:=Xn (ZL A j);rw [hk] at g be ae;obtain ⟨L,hL⟩:=Xn (ZA [] (l.take i));rw [hL] at g HO
   have B:Y5 ((L++Zb k++Z5 (j.drop k)++Zb z1.toNat++Zb z2.toNat++Zb z3.toNat).length<=140737488355328):=Y4 (by
    rw [g] at E;simp only [Xd] at E ⊢;omega)
   have HN:Y5 (ZA [] (l.take (i+1))=L++Zb k++Z5 (j.drop k)++Zb z1.toNat++Zb z2.toNat++Zb z3.toNat):=Y4 (by rw [g];simp only [Xk]);have bb:=Y4 aX;have a5:=Y4 ae;have a9:((k:Nat):Int)<=9223372036854775807:=by omega
   have G:=Y4 (fun W (n:Below w.heap.size w W)=>(show W.cell? ⟨b,off+i*4,none⟩=some (.string ⟨j.toArray⟩)/\W.cell? ⟨b,off+i*4+1,none⟩=some (.int .i64 z1)/\W.cell? ⟨b,off+i*4+2,none⟩=some (.int .i64 z2)/\W.cell? ⟨b,off+i*4+3,none⟩=some (.int .i64 z3) from
    ⟨(n.cell (p:=⟨b,_,none⟩) c).trans c1,(n.cell (p:=⟨b,_,none⟩) c).trans c2,(n.cell (p:=⟨b,_,none⟩) c).trans c3,(n.cell (p:=⟨b,_,none⟩) c).trans c4⟩))
   have ag:=Zor j k;have a6:(j.drop k).length<=4096:=by rw [Xp];omega
   have bk:(k:Int)<=(j.length:Int):=by omega
   obtain ⟨g1,g2,g3,g4⟩:=G.z wr HB.z;clear g aX E hk ae hL c1 c2 c3 c4;go_wp2_with fail;refine (a5.z _).mono ?_;rintro e ws ⟨rfl,m,hm⟩;have aD:Below w.heap.size w ws:=by rw [hm];exact MM.below_drewN HB.z m
   have aA:Zd w.heap.size ws u3 L:=by rw [hm];exact Zd.keep HO.z (MM.below_drewN (Below.refl _ _) m)
   clear hm;obtain ⟨wd,D⟩:=Xn ws.drew;have H:Y5 (Below w.heap.size w wd):=Y4 (by rw [<- D];exact aD.drew);have an:Y5 (Zd w.heap.size wd u3 L):=Y4 (by rw [<- D];exact Zd.keep aA (Below.refl _ _).drew);have aG:=H.z.size;have a4:=Y4 D;clear D aA aD g1 g2 g3 g4;go_wp2_with fail;refine RK.Zal (T:=fun k=>k<w.heap.size) [(0,true),(1,true),(4,true),(5,true),(6,true),(7,true),(8,true),(9,true),(10,true),(2,false),(3,false),(11,false),(12,false),(13,true)] (by kernel_rfl) (by kernel_rfl) rfl (by kernel_rfl) (fun _ _ d _ _ h=>by cases d<;>exact h) ?_;simp only [RK.Zt,XC,XN,XU,XV,XS];rw [a4.z];have f1:=fun W (n:Kep (fun k=>k<w.heap.size) wd W)=>(n.cell (show b<wd.heap.size by omega) c (off+i*4)).trans (G.z wd H.z).1;repeat ((first|(refine RK.take (by rfl) (by intro W n;go_simp;with_reducible rfl) ?_));simp only [Act.put,Xm,Xo,Xl])
   refine RK.alone (by rfl) (fun K a => ?_);go_simp;refine (Zd1 (k:Int) wd (by omega) a9).mono ?_;rintro e w2 ⟨v2,rfl,aZ,r⟩;go_simp;refine a.z _ _ (Za _ r) ?_;clear a K;have aC:w.heap.size<=w2.heap.size:=Xy aG r.size;have a0:=Y4 (an.z.keep r);have aj:=Y4 aZ;have aV:=Y4 (H.z.trans (r.mono aG));clear aZ r an H;rw [XY] at aj;refine RK.alone (by rfl) (fun K a => ?_);refine wp_append_own _ _ rfl u3 (L) rfl a0.z aC _ (Zb k) rfl aj.z.brow (Zaz _) (by have:=B.z;simp only [Xd] at this ⊢;omega) ?_;intro v3 w3 aI ai aP;refine a.z _ _ aP ?_;clear a K;have aw:w.heap.size<=w3.heap.size:=Xy aC ai.size;have aB:=Y4 aI;have aW:=Y4 (aV.z.trans ai);clear aI ai aP a0 aV aj;try rw [ag]
   refine RK.alone (by rfl) (fun K a => ?_);go_simp;refine (ZBP (j.drop k) a6 w3).mono ?_;rintro e w4 ⟨v4,rfl,aS,z⟩;go_simp;refine a.z _ _ (Za _ z) ?_;clear a K;have aq:w.heap.size<=w4.heap.size:=Xy aw z.size;have ax:=Y4 (aB.z.keep z);have aN:=Y4 aS;have au:=Y4 (aW.z.trans (z.mono aw));clear aS z aB aW;refine RK.alone (by rfl) (fun K a => ?_);refine wp_append_own _ _ rfl v3 (L++Zb k) rfl ax.z aq _ (Z5 (j.drop k)) rfl aN.z.brow (ZfW _) (by have:=B.z;simp only [Xd] at this ⊢;omega) ?_;intro v5 w5 aO ad aJ;refine a.z _ _ aJ ?_;clear a K;have bm:w.heap.size<=w5.heap.size:=Xy aq ad.size;have aR:=Y4 aO;have aH:=Y4 (au.z.trans ad);clear aO ad aJ ax au aN;repeat ((first|(refine RK.take (by rfl) (by intro W n;go_simp;with_reducible rfl) ?_));simp only [Act.put,Xm,Xo,Xl])
   refine RK.done ?_;clear f1;go_wp2_with fail;obtain ⟨q,ah⟩:=Xn w5.drew;have o:Y5 (Below w.heap.size w q):=Y4 (by rw [<- ah];exact aH.z.drew);have aQ:Y5 (Zd w.heap.size q v5 (L++Zb k++Z5 (j.drop k))):=Y4 (by rw [<- ah];exact Zd.keep aR.z (Below.refl _ _).drew);have ar:=o.z.size;clear aH aR;refine RK.Zal (T:=fun k=>k<w.heap.size) [(0,true),(1,true),(2,true),(3,true),(4,true),(5,true),(8,true),(9,true),(10,true),(11,true),(12,true),(15,true),(16,true),(17,true),(18,true),(19,true),(6,false),(7,false),(13,false),(14,false),(20,false),(21,false),(22,true)] (by kernel_rfl) (by kernel_rfl) rfl (by kernel_rfl) (fun _ _ d _ _ h=>by cases d<;>exact h) ?_;simp only [RK.Zt,XC,XN,XU,XV,XS];rw [ah];have f1:=fun W (n:Kep (fun k=>k<w.heap.size) q W)=>(n.cell (show b<q.heap.size by omega) c (off+i*4+1)).trans (G.z q o.z).2.1;have f2:=fun W (n:Kep (fun k=>k<w.heap.size) q W)=>(n.cell (show b<q.heap.size by omega) c (off+i*4+2)).trans (G.z q o.z).2.2.1;have f3:=fun W (n:Kep (fun k=>k<w.heap.size) q W)=>(n.cell (show b<q.heap.size by omega) c (off+i*4+3)).trans (G.z q o.z).2.2.2;repeat ((first|(refine RK.take (by rfl) (by intro W n;go_simp;with_reducible rfl) ?_));simp only [Act.put,Xm,Xo,Xl])
   refine RK.alone (by rfl) (fun K a => ?_);go_simp;refine (Zd1 z1 q (by omega) (by omega)).mono ?_;rintro e w7 ⟨v7,rfl,aY,s⟩;go_simp;refine a.z _ _ (Za _ s) ?_;clear a K;have am:w.heap.size<=w7.heap.size:=Xy ar s.size;have a2:=Y4 (aQ.z.keep s);have ay:=Y4 aY;have aU:=Y4 (o.z.trans (s.mono ar));clear aY s aQ o;refine RK.alone (by rfl) (fun K a => ?_);refine wp_append_own _ _ rfl v5 (L++Zb k++Z5 (j.drop k)) rfl a2.z am _ (Zb z1.toNat) rfl ay.z.brow (Zaz _) (by have:=B.z;simp only [Xd] at this ⊢;omega) ?_;intro v8 w8 ap af a3;refine a.z _ _ a3 ?_;clear a K;have al:w.heap.size<=w8.heap.size:=Xy am af.size;have aF:=Y4 ap;have aT:=Y4 (aU.z.trans af);clear ap af a3 a2 aU ay;refine RK.alone (by rfl) (fun K a => ?_);go_simp;refine (Zd1 z2 w8 (by omega) (by omega)).mono ?_;rintro e w9 ⟨v9,rfl,az,u⟩;go_simp;refine a.z _ _ (Za _ u) ?_;clear a K;have aL:w.heap.size<=w9.heap.size:=Xy al u.size;have F:=Y4 (aF.z.keep u);have ak:=Y4 az;have aM:=Y4 (aT.z.trans (u.mono al));clear az u aF aT;refine RK.alone (by rfl) (fun K a => ?_);refine wp_append_own _ _ rfl v8 (L++Zb k++Z5 (j.drop k)++Zb z1.toNat) rfl F.z aL _ (Zb z2.toNat) rfl ak.z.brow (Zaz _) (by have:=B.z;simp only [Xd] at this ⊢;omega) ?_;intro a7 aK J C I;refine a.z _ _ I ?_;clear a K;have S:w.heap.size<=aK.heap.size:=Xy aL C.size;have V:=Y4 J;have ab:=Y4 (aM.z.trans C);clear J C I F aM ak;refine RK.alone (by rfl) (fun K a => ?_);go_simp;refine (Zd1 z3 aK (by omega) (by omega)).mono ?_;rintro e bd ⟨bo,rfl,Y,f⟩;go_simp;refine a.z _ _ (Za _ f) ?_;clear a K;have O:w.heap.size<=bd.heap.size:=Xy S f.size;have Z:=Y4 (V.z.keep f);have M:=Y4 Y;have aa:=Y4 (ab.z.trans (f.mono S));clear Y f V ab;refine RK.alone (by rfl) (fun K a => ?_);refine wp_append_own _ _ rfl a7 (L++Zb k++Z5 (j.drop k)++Zb z1.toNat++Zb z2.toNat) rfl Z.z O _ (Zb z3.toNat) rfl M.z.brow (Zaz _) (by have:=B.z;simp only [Xd] at this ⊢;omega) ?_;intro bl aE ac t U;refine a.z _ _ U ?_;clear a K;have bg:w.heap.size<=aE.heap.size:=Xy O t.size;have N:=Y4 ac;have R:=Y4 (aa.z.trans t);clear ac t U Z aa M;rw [<- HN.z] at N;repeat ((first|(refine RK.take (by rfl) (by intro W n;go_simp;with_reducible rfl) ?_));simp only [Act.put,Xm,Xo,Xl])
   refine RK.done ?_;clear f1 f2 f3;obtain ⟨g1,g2,g3,g4⟩:=G.z aE R.z;go_wp2_with fail;go_roundw
   case rel=>exact ⟨i+1,j,by omega,by go_num,rfl,Y4 bb.z.symm,N,R⟩
   case measure=>simp [intOf];omega
  ·obtain rfl:i=l.length:=by omega
   have q1:decide ((l.length:Int)<(l.length:Int))=false:=by simp
   have q2:decide (l.length<l.length)=false:=by simp
   have ho:=HO.z;rw [ao.z] at ho;have F:=Y4 ho;clear HO ho y;go_wp2_with fail;go_ret;exact ⟨_,rfl,F.z,HB.z⟩
end DT
namespace DT
open RowKit MM DM VM VP GB
theorem chunk_ok {l:List ZN} (h:∀x∈l,okX x=true) (j:Nat):∀x∈Zw l j,okX x=true:=fun x a=>h x (XaX (Xaq a))
theorem Zes (l:List ZN) (j:Nat):(Zw l j).length<=16:=by unfold Zw;rw [Xi];omega
theorem Zip {l:List ZN} (h:∀x∈l,okX x=true) (j:Nat):(Zfr l j).length<=1860:=by
 unfold Zfr;rw [Xd];have h1:=ZbM (Zw l j) [] (chunk_ok h j);have h2:=Zes l j;have h3:=Zc (ZA [] (Zw l j)).length;omega
theorem ZxG {l:List ZN} (h:ZbC l=true):(ZbD l).length<=1000000000:=by
 obtain ⟨h1,c⟩:=ZfD h
 have b:∀a:List Nat,(a.flatMap (Zfr l)).length<=1860*a.length:=fun a=>by
  induction a with
  | nil=>simp
  | cons j a ih =>
    rw [XaP,Xd,Xh];have:=Zip c j;omega
 unfold ZbD ZbP;rw [Xd];have h4:=b ((List.range (Zr l)).drop 0);have h5:=Zc l.length;have h6:((List.range (Zr l)).drop 0).length=Zr l:=by simp
 have h7:Zr l<=16384:=by unfold Zr;omega
 omega
def ZwR (l:Xu) (x:Int) (w:World) (e:Ending) (w':World):Prop:=∃v,e=.returned (.tuple #[v,.int .i64 x])/\Zd w.heap.size w' v l/\Below w.heap.size w w'
theorem Zd0 (v:Value) (l:List ZN) (w:World) (hv:ZF Zbr w v l):Calls prog 43 #[v] w (ZwR (if ZbC l then ZbD l else []) (if ZbC l then 0 else 110) w):=by
 obtain ⟨p,an,rfl,aD,am,_⟩:=hv.shape;unfold maxLen at am;have HV:=Y4 hv;have F:=Y4 (Zzk _ l w hv)
 by_cases d:ZbC l=true
 ·rw [d] at F;rw [Xe d,Xe d];have HX:=Y4 (ZfD d).2;have hn:=(ZfD d).1;have O:=Y4 (ZxG d);obtain ⟨E,hE⟩:=Xn (ZbD l);have T:Y5 (Zb l.length++ZbP l 0=E):=Y4 hE;rw [hE] at O ⊢;have q:=fun W=>Y4 (Zd1 (l.length:Int) W (by omega) (by omega));simp only [XY] at q;have n:=Y4 q;clear d hE hv q;go_enter func43,ntmps43;go_wp2_with fail;refine F.z.mono ?_;rintro e w1 ⟨rfl,f⟩;have c:=Y4 f;clear f F;go_wp2_with fail;refine (n.z w1).z.mono ?_;rintro e w2 ⟨v2,rfl,af,I⟩;have ag:Y5 (Zd w.heap.size w2 v2 (Zb l.length)):=Y4 (Zd.weaken af c.z.size);have ae:=Y4 (c.z.trans (I.mono c.z.size));clear af I c n;go_wp2_with fail
  go_loopw [4,5] (fun bv iv wr=>∃(a j:Nat) (L:Xu),iv=.int .i64 a/\Y5 (a=16*j/\j<=Zr l/\a<=l.length+15)/\Y5 (L++ZbP l j=E)/\Y5 (Zd w.heap.size wr bv L)/\Y5 (Below w.heap.size w wr)) (fun _ iv _=>l.length+16 - (intOf iv).toNat)
  case atStart=>exact ⟨0,0,Zb l.length,rfl,Y4 ⟨rfl,XX _,by omega⟩,T,ag,ae⟩
  case round =>
   obtain ⟨a,j,L,rfl,G,HL,HO,J⟩:=hrel;clear T ag ae
   by_cases ab:a<l.length
   ·have q1:decide ((a:Int)<(l.length:Int))=true:=Xt;have q2:decide (a<l.length)=true:=Xt;obtain ⟨e,he⟩:=Xn (min l.length (a+16));have aB:a<e:=by omega
    have aI:e<=l.length:=by omega
    have aA:min (l.length:Int) ((a:Int)+16)=(e:Int):=by omega
    have ay:IntKind.i64.wrap ((a:Int)+16)=(a:Int)+16:=by rw [IntKind.wrap_i64];omega
    have q3:(a:Int)<=(e:Int):=by omega
    have q4:(e:Int)<=(an:Int):=by omega
    have N:(l.drop a).take (e - a)=Zw l j:=by
     unfold Zw;rw [<- G.z.1,<- he]
     by_cases h:a+16<=l.length
     ·rw [show min l.length (a+16) - a=16 by omega]
     ·rw [XO (by rw [Xp];omega),XO (by rw [Xp];omega)]
    have t:j<Zr l:=by unfold Zr;have:=G.z.1;omega
    have i:=HL.z;rw [Zi2 t] at i;have A:=ZF.below HV.z J.z;obtain ⟨b,off,ar,aF,_⟩:=ZcU A ab;subst ar;have m:=(ZB.drop A a (by omega)).take (e - a) (by omega);rw [N,Xc (by omega),Xae,ZZ,Zl4] at m;have aj:=Y4 (fun W (h:Below w.heap.size wr W)=>h);have D:=Y4 (ZiI _ (Zw l j) wr m (chunk_ok HX.z j) (by have:=Zes l j;omega));have aa:=ZbM (Zw l j) [] (chunk_ok HX.z j);have ac:=Zes l j;have aC:L.length<=E.length:=by rw [<- HL.z,Xd];omega
    have aE:=O.z;unfold Zfr at i;obtain ⟨C,hC⟩:=Xn (ZA [] (Zw l j));rw [hC] at i D aa;have HN:Y5 ((L++Zb C.length++C)++ZbP l (j+1)=E):=Y4 (by rw [<- i];simp only [Xk]);have aG:C.length<=2000:=by omega
    have aH:=Zc C.length;have ak:Y5 (a+16=16*(j+1)/\j+1<=Zr l/\a+16<=l.length+15):=Y4 ⟨by have:=G.z.1;omega,t,by omega⟩;have q:=fun W=>Zd1 (C.length:Int) W (by omega) (by omega);simp only [XY] at q;have n:=Y4 q;clear i A m aa ac hC N t HL G q aj he;go_wp2_with fail;refine D.z.mono ?_;rintro e w3 ⟨v3,rfl,u,y⟩;have ai:w.heap.size<=wr.heap.size:=J.z.size;have ax:∀g,u4.ownBlock=some g->g<wr.heap.size:=fun g hg=>(World.ownsRow.lt HO.z g hg).2;have S:=Y4 (HO.z.keep y);have z:=Y4 (J.z.trans (y.mono ai));obtain ⟨px,cx,rfl,az,R⟩:=u.brow.shape;unfold maxLen at R;have H:=Y4 u;clear u HO J D;go_wp2_with fail;refine (n.z w3).mono ?_;rintro e w4 ⟨v4,rfl,Z,o⟩;have ah:w.heap.size<=w3.heap.size:=z.z.size;have ao:=Y4 Z;have s:=Y4 (S.z.keep o);have Y:=Y4 (H.z.keep o);have M:=Y4 (z.z.trans (o.mono ah));have au:w.heap.size<=w4.heap.size:=M.z.size;clear Z o y S H z n;go_wp2_with (at_builtin;first|(go_loud (refine Zn rfl _ _ rfl u4 L rfl (Zd.zero s.z) _ (Zb C.length) rfl ao.z.brow (Zaz _) (by omega) ?_;intro v5 w5 V r;have x:=r.kep;have al:=Y4 (show Zd wr.heap.size w5 (.slice px C.length cx) C from ZdY Y.z x (fun g hg e=>by have:=ax g e;have:=(World.ownsRow.lt Y.z g hg).1;omega));have aq:=Y4 (Zd.from (B:=w.heap.size) V (fun k hk=>by rcases r.2 k hk with e|e;exact (World.ownsRow.lt s.z k e).1;omega));have U:=Y4 (M.z.trans (x.below (B:=w.heap.size) au (fun k hk e=>by have:=(World.ownsRow.lt s.z k e).1;omega)));clear V r x))|(go_loud (refine Zh rfl _ _ rfl w.heap.size v5 (L++Zb C.length) rfl aq.z _ C rfl al.z.brow (by rw [Xd];omega) U.z.size ?_;intro v6 w6 X ad;have ap:=Y4 X;have aw:=Y4 (U.z.trans ad);clear X ad)))
    go_roundw
    case rel=>exact ⟨a+16,j+1,L++Zb C.length++C,by go_num,ak,HN,ap,aw⟩
    case measure=>simp [intOf];omega
   ·have q1:decide ((a:Int)<(l.length:Int))=false:=Xf;have q2:decide (a<l.length)=false:=Xf;have hj:Zr l<=j:=by unfold Zr;have:=G.z.1;omega
    have hl:=HL.z;rw [Zqe hj,XH] at hl;have ho:=HO.z;rw [hl] at ho;have av:=Y4 ho;clear hl ho HO HL G hj ab;go_wp2_with fail;go_ret2;exact ⟨_,rfl,av.z,J.z⟩
 ·have d:ZbC l=false:=by simpa using d
  rw [d] at F ⊢;clear d hv;go_enter func43,ntmps43;go_wp2_with fail;refine F.z.mono ?_;rintro e w1 ⟨rfl,f⟩;have c:=Y4 f;clear f F;go_wp2_with fail;go_ret2;exact ⟨_,rfl,World.ownsRow_nil _ _ _ _,c.z⟩
open RowKit MM DM VM VP
theorem Zwq (a b:Xu):(⟨a.toArray⟩:ByteArray)++⟨b.toArray⟩=⟨(a++b).toArray⟩:=by
 apply ByteArray.ext;rw [ByteArray.data_append];simp
theorem ZoW (l:Xu) (k:Nat):(⟨l.toArray⟩:ByteArray).extract 0 k=⟨(l.take k).toArray⟩:=by rw [ZhY];rfl
open RowKit MM DM VM
theorem ZxP (B g:Nat) (A l:Xu) (o:Bool) (w:World) (hA:A.length<=65) (h:Rd B w g l o) (V:B<=g) :
  Calls prog 161 #[.pointer (some ⟨g,0,none⟩),.string ⟨A.toArray⟩] w (ZfA B g (Zl3 (Zce A l o).1) (Zce A l o).2.1 (Zce A l o).2.2 w):=by
 have aD:prog.follows .mixedOrders=true:=by kernel_rfl
 obtain ⟨R,hR⟩:=Xn w.heap.size;have al:g<R:=by rw [<- hR];exact h.lt
 obtain ⟨wa,u⟩:=Xn (w.alloc (.cells #[.string ⟨#[]⟩,.int .i64 0,.int .i64 0,.int .i64 0] 102));have ai:Y5 (Kep (fun b=>b≠g) w wa):=Y4 (by rw [<- u];exact Zu _ _ _);have Y:Y5 (Za3 wa R 102 (.string ⟨#[]⟩) (.int .i64 0) (.int .i64 0) (.int .i64 0)):=Y4 (by rw [<- u,<- hR];exact ZeP w 102 _ _ _ _);have am:Rd B wa g l o:=h.keep (S:=fun _=>True) (by rw [<- u];exact Zu _ _ _) trivial (fun _ _=>trivial) (by omega);have au:Y5 (wa.heap.size=R+1):=Y4 (by rw [<- u,<- hR];simp);obtain ⟨⟨k,Z,o1⟩,U⟩:∃s,Ze A.length l o=s:=⟨_,rfl⟩;have hk:k<=A.length:=by have:=ZbS A.length l o;rw [U] at this;exact this
 obtain ⟨⟨t,l2,o2⟩,e2⟩:∃s,Z6 (65 - (k:Int)) Z o1=s:=⟨_,rfl⟩;have ht:(t.length:Int)<=65 - (k:Int):=by have:=ZpL (65 - (k:Int)) Z o1;rw [e2] at this;dsimp only at this;omega
 obtain ⟨T,hT⟩:=Xn (A.take k++t);have az:T.length<=65:=by rw [<- hT,Xd,Xi];omega
 have e3:Zdi A l o=(T,l2,o2):=by unfold Zdi;rw [U];dsimp only;rw [e2];dsimp only;rw [hT]
 obtain ⟨⟨l3,o3⟩,e4⟩:∃s,ZbQ A l o=s:=⟨_,rfl⟩;have e5:(if ZL A T=k then (l2,o2) else ([],true))=(l3,o3):=by rw [<- e4];unfold ZbQ;rw [e3,U]
 obtain ⟨⟨a,l4,o4⟩,e6⟩:∃s,Ze 67108864 l3 o3=s:=⟨_,rfl⟩;obtain ⟨⟨b,l5,o5⟩,e7⟩:∃s,Ze 67108864 l4 o4=s:=⟨_,rfl⟩;obtain ⟨⟨c,l6,o6⟩,e8⟩:∃s,Ze 67108864 l5 o5=s:=⟨_,rfl⟩
 have hE:Zce A l o=((T,((a:Int),((b:Int),(c:Int)))),l6,o6):=by
  unfold Zce Zcp;rw [e4,e3];dsimp only;rw [e6];dsimp only;rw [e7];dsimp only;rw [e8]
 rw [hE];have q:=Y4 (fun m l o W (I:m<=1099511627776) (h:Rd B W g l o)=>ZaQ B g m l o W I h V);have C:=Y4 (fun W (h:Rd B W g Z o1)=>Zhw B g (65 - (k:Int)) Z o1 W (by omega) (by omega) h V);have ar:=Y4 (fun W (h:Rd B W g l2 o2)=>Zbs B g l2 [] o2 (.slice none 0 0) 110 W h V (BIn.nil_ _ _));rw [e2] at C;have H1:=q.z A.length l o wa (by omega) am;rw [U] at H1;have H1:=Y4 H1;have v:=Y4 e5;have aB:=ZaX A;have ax:=ZaX T;have G:=Y4 (fun W=>Zm6 A T W (by omega) (by omega));have D:=Zwq (A.take k) t;have ao:=ZoW A k;have ah:=fun W=>run_string_add_sum (P:=prog) W ⟨(A.take k).toArray⟩ ⟨t.toArray⟩ (by rw [ZaX,ZaX,Xi];omega);rw [hT] at D;simp only [D] at ah;have aE:(k:Int)<=(A.length:Int):=by omega
 have av:IntKind.i64.wrap (65 - (k:Int))=65 - (k:Int):=by rw [IntKind.wrap_i64];omega
 have ag:=Y4 u;have O:=Y4 V;have f:=Y4 al;have H6:=Y4 e6;have H7:=Y4 e7;have H8:=Y4 e8;clear u h am U e2 e3 e4 e5 e6 e7 e8 hE hT V al;go_enter func161,ntmps161;go_wp2_with fail;rw [ag.z];refine H1.z.mono ?_;rintro e w1 ⟨rfl,h1,k1⟩;have ae:R+1<=w1.heap.size:=by have:=k1.size;have:=au.z;omega
 have aj:=Y4 (Y.z.keep k1 (by have:=f.z;omega));have K1:=Y4 (ai.z.trans k1);obtain ⟨wd,r⟩:=Xn w1.drew;have R1:Y5 (Rd B wd g Z o1):=Y4 (by rw [<- r];exact Rd.keep h1 (S:=fun _=>True) (Za _ (Below.refl _ _).drew) trivial (fun _ _=>trivial) (by have:=O.z;have:=f.z;omega));have ab:Y5 (Za3 wd R 102 (.string ⟨#[]⟩) (.int .i64 0) (.int .i64 0) (.int .i64 0)):=Y4 (by rw [<- r];exact aj.z.below (Below.refl w1.heap.size _).drew (by omega));have KD:Y5 (Kep (fun b=>b≠g) w wd):=Y4 (by rw [<- r];exact K1.z.trans (Za _ (Below.refl _ _).drew));have aq:R+1<=wd.heap.size:=by rw [<- r];simpa using ae
 have an:=Y4 r;clear r h1 k1 H1 Y aj K1 ae ai ag;go_wp2_with fail;refine RK.Zal (T:=fun b=>b≠g) [(0,true),(1,true),(2,true),(3,true),(4,true),(5,true),(6,false),(7,true),(8,true)] (by kernel_rfl) (by kernel_rfl) rfl (by kernel_rfl) (fun _ _ d _ _ h=>by cases d<;>exact h) ?_;simp only [RK.Zt,XC,XN,XU,XV,XS];rw [an.z];repeat ((first|(refine RK.take (by rfl) (by intro W hW;go_simp;with_reducible rfl) ?_));simp only [Act.put,Xm,Xo,Xl])
 refine RK.alone (by rfl) (fun K hK => ?_);go_simp;refine (C.z wd R1.z).mono ?_;rintro e w2 ⟨rfl,h2,L⟩;go_simp;refine hK.z _ _ L ?_;clear hK K;have ac:R+1<=w2.heap.size:=by have:=L.size;omega
 have x:=Y4 (ab.z.keep L (by have:=f.z;omega));have K2:=Y4 (KD.z.trans L);have R2:=Y4 h2;clear h2 L ab KD R1 aq;repeat ((first|(refine RK.take (by rfl) (by intro W hW;go_simp;with_reducible rfl) ?_));simp only [Act.put,Xm,Xo,Xl])
 refine RK.done ?_;obtain ⟨n,hn⟩:=Xn (ZL A T);rw [hn] at G v;have ap:=(ZdL A T).1;rw [hn] at ap;clear hn;rcases Classical.em (n=k) with hs|hs
 case' inl =>
  subst hs;have F:=v.z;rw [Xe rfl] at F;obtain ⟨rfl,rfl⟩:=Xa4 F;clear F v;go_wp2_with fail;refine (G.z _).mono ?_;rintro e M ⟨rfl,m,I⟩;have j:Kep (fun _=>True) w2 M:=by rw [I];exact Za _ (MM.below_drewN (Below.refl _ _) m)
  have aa:R+1<=M.heap.size:=by have:=j.size;omega
  have J:=Y4 (x.z.keep j trivial);have K3:=Y4 (K2.z.trans (j.mono' fun _ _ _=>trivial));have R3:=Y4 (R2.z.keep j trivial (fun _ _=>trivial) (by have:=O.z;have:=f.z;omega));clear I j ac x K2 R2
 case' inr =>
  have t0:((n:Int) != (k:Int))=true:=by rw [Xah];omega
  have F:=v.z;rw [Xc hs] at F;obtain ⟨rfl,rfl⟩:=Xa4 F;clear F v hs;go_wp2_with fail;refine (G.z _).mono ?_;rintro e E ⟨rfl,m,I⟩;have j:Kep (fun _=>True) w2 E:=by rw [I];exact Za _ (MM.below_drewN (Below.refl _ _) m)
  have aa:R+1<=E.heap.size:=by have:=j.size;omega
  have z:=Y4 (x.z.keep j trivial);have af:=Y4 (K2.z.trans (j.mono' fun _ _ _=>trivial));have HQ:=Y4 (ar.z E (R2.z.keep j trivial (fun _ _=>trivial) (by have:=O.z;have:=f.z;omega)));clear I j ac x K2 R2;go_wp2_with fail;refine HQ.z.mono ?_;rintro e M ⟨rfl,h3,k3⟩;have aw:R+1<=M.heap.size:=by have:=k3.size;omega
  have J:=Y4 (z.z.keep k3 (by have:=f.z;omega));have K3:=Y4 (af.z.trans k3);have ad:Rd B M g [] true:=by have:=h3;simpa using this
  have R3:=Y4 ad;clear h3 ad k3 aa z af HQ
 all_goals
  have N:=q.z 67108864 _ _ M (by omega) R3.z;rw [H6.z] at N;have N:=Y4 N;go_wp2_with fail;refine N.z.mono ?_;rintro e w4 ⟨rfl,h4,k4⟩;have aA:R+1<=w4.heap.size:=by have:=k4.size;omega
  have X:=Y4 (J.z.keep k4 (by have:=f.z;omega));have K4:=Y4 (K3.z.trans k4);have R4:=Y4 h4;clear h4 k4 J K3 R3 N;have N5:=q.z 67108864 _ _ w4 (by omega) R4.z;rw [H7.z] at N5;have N5:=Y4 N5;go_wp2_with fail;refine N5.z.mono ?_;rintro e w5 ⟨rfl,h5,k5⟩;have ay:R+1<=w5.heap.size:=by have:=k5.size;omega
  have ak:=Y4 (X.z.keep k5 (by have:=f.z;omega));have K5:=Y4 (K4.z.trans k5);have R5:=Y4 h5;clear h5 k5 X K4 R4 N5;have N6:=q.z 67108864 _ _ w5 (by omega) R5.z;rw [H8.z] at N6;have N6:=Y4 N6;go_wp2_with fail;refine N6.z.mono ?_;rintro e w6 ⟨rfl,h6,k6⟩;have aC:R+1<=w6.heap.size:=by have:=k6.size;omega
  have y:=Y4 (ak.z.keep k6 (by have:=f.z;omega));have K6:=Y4 (K5.z.trans k6);have R6:=Y4 h6;clear h6 k6 ak K5 R5 N6;obtain ⟨m1,m2,m3,m4,⟨k1,L⟩,⟨k3,k4⟩,k5,k6⟩:=y.z.all (.string ⟨T.toArray⟩) (.int .i64 (a:Int)) (.int .i64 (b:Int));have n0:=y.z.c0;have HX:=Y4 (y.z.set (.string ⟨T.toArray⟩) (.int .i64 (a:Int)) (.int .i64 (b:Int)) (.int .i64 (c:Int)));have H:Kep (fun b=>b≠R) w6 _:=ZfQ (g:=R) (.string ⟨T.toArray⟩) (.int .i64 (a:Int)) (.int .i64 (b:Int)) (.int .i64 (c:Int));have K7:=Y4 (K6.z.andThen H fun i hi _=>by omega);have R7:=Y4 (R6.z.keep H (by have:=f.z;omega) (fun k hk=>by have:=O.z;have:=f.z;omega) (by have:=O.z;have:=f.z;omega));clear H y K6 R6;go_wp2_with fail;refine bodyPost_ret (Zns (p:=4) rfl underlying102 rfl Zgc _ _ R _ _ _ _ rfl HX.z) rfl ?_;exact ⟨rfl,R7.z,K7.z⟩
variable {w:World}
def ZwU (s:List ZN×Xu×Bool) (w:World) (e:Ending) (w':World):Prop :=
 ∃v',e=.returned (.tuple #[v',.bool (!s.2.2&&decide (s.2.1=[]))])/\ZC Zbr 102 w.heap.size (fun _=>False) w' v' s.1/\Below w.heap.size w w'
theorem Zez {α:Type} {C:Codec α} {e:TypeId} {B B':Nat} {S:Nat->Prop} {v:Value} {es:List α} (h:ZC C e B S w v es) (j:B'<=B):ZC C e B' S w v es:=by
 obtain ⟨c,d,l⟩:=h;refine ⟨c,⟨d.1,?_⟩,l⟩;rcases d.2 with i|⟨g,b,a,f,k,rest⟩
 ·exact .inl i
 ·exact .inr ⟨g,b,a,f,Xy j k,rest⟩
def ZsM:Value->Nat | .slice _ n _=>n|_=>0
theorem ZxR (f:Nat) (A:Xu) (a:List ZN) (o:Bool):ZaM f A a [] o=(a,[],o):=by cases f<;>simp [ZaM]
theorem Zu7 {f:Nat} {A L:Xu} {a:List ZN} {o:Bool} (b:L≠[]) (hf:0<f):ZaM f A a L o=ZaM (f - 1) (Zce A L o).1.1 (a++[(Zce A L o).1]) (Zce A L o).2.1 (Zce A L o).2.2:=by
 obtain ⟨f,rfl⟩:∃g,f=g+1:=⟨f - 1,by omega⟩;rw [ZaM,Xc b];rfl
theorem Zi6 {wr:World} {s:List ZN×Xu×Bool} {a:Value} {b:Bool} (d:ZC Zbr 102 w.heap.size (fun _=>False) wr a s.1) (c:Below w.heap.size w wr) (h:(!s.2.2&&decide (s.2.1=[]))=b) (m:Nat):ZwU s w (.returned (.tuple #[a,.bool b])) (wr.drewN m) :=
 ⟨a,by rw [h],d.keep (Za (fun _=>True) (MM.below_drewN (Below.refl _ _) m)) (fun _ _ h=>trivial) (fun _ _=>trivial),MM.below_drewN c m⟩
theorem Zl6 (B:Nat) (v:Value) (l:Xu) (w:World) (hv:BIn B w v l) (hB:B<=w.heap.size):Calls prog 104 #[v] w (ZwU (ZaM 16 [] [] l false) w):=by
 obtain ⟨R,hR⟩:=Xn w.heap.size;obtain ⟨p0,c0,rfl,_⟩:=hv.shape;obtain ⟨wa,y⟩:=Xn (w.alloc (.cells #[.slice p0 l.length c0,.bool false] 166));have Y:Below w.heap.size w wa:=by rw [<- y];exact (Below.refl _ _).alloc (Xa _) _
 have aj:Y5 (Rd B wa R l false):=Y4 (by
  refine ⟨.slice p0 l.length c0,?_,hv.below (Y.mono hB)⟩;rw [<- y,<- hR];exact heap_alloc_new _ _)
 have ai:Y5 (Below w.heap.size w wa):=Y4 Y;have az:Y5 (wa.heap.size=R+1):=Y4 (by rw [<- y,<- hR];simp);obtain ⟨aq,hF⟩:=Xn (ZaM 16 [] [] l false);have ag:=Y4 hF;rw [hF];have aw:=Y4 (ZC.nil_ (C:=Zbr) 102 (R+1) (fun _=>False) wa);have j:=Y4 (fun A l o W (hA:A.length<=65) (h:Rd B W R l o)=>ZxP B R A l o W hA h (by omega));have H:Y5 (B<=R):=Y4 (by omega);have am:=Y4 y;clear y Y hv hB hF;go_enter func104,ntmps104;go_wp2_with fail;rw [am.z]
 go_loopw [2,5] (fun lv av wr=>∃(a:List ZN) (A:Xu) (L:Xu) (o:Bool),av=.string ⟨A.toArray⟩/\A.length<=65/\a.length<=16/\Y5 (ZaM (16 - a.length) A a L o=aq)/\Y5 (Rd B wr R L o)/\Y5 (ZC Zbr 102 (R+1) (fun _=>False) wr lv a)/\Y5 (Below w.heap.size w wr)/\Y5 (R+1<=wr.heap.size)) (fun lv _ _=>16 - (ZsM lv))
 case atStart=>exact ⟨[],[],l,false,rfl,by simp,by simp,ag,aj,aw,ai,Y4 (by have:=az.z;omega)⟩
 case round =>
  obtain ⟨a,A,L,o,rfl,hA,aI,O,m,N,p,ab⟩:=hrel;clear ag aj aw ai az am;obtain ⟨pl,cl,rfl,aL,aO,_⟩:=N.z.any.shape;obtain ⟨v0,U,aA⟩:=m.z;obtain ⟨p1,c1,rfl,_⟩:=aA.shape;have f0:wr.cell? ⟨R,0,none⟩=some (.slice p1 L.length c1):=by rw [cell_of_row wr R 0 _ _ _ U];rfl
  have f1:wr.cell? ⟨R,1,none⟩=some (.bool o):=by rw [cell_of_row wr R 1 _ _ _ U];rfl
  clear U aA;obtain ⟨n,T⟩:=Xn L.length;rw [T] at f0;have HN:=Y4 T;have aC:=N
  by_cases hL:n=0
  ·have i:L=[]:=XP (by omega);have c:=O.z;rw [i,ZxR] at c;have q1:decide ((n:Int)>0)=false:=Xf;have q2:decide (0<n)=false:=Xf;have q3:((n:Int) == 0)=true:=by rw [Xaj];omega
   subst c;cases o with
   | true =>
     clear T hL i HN O j m;go_wp2_with fail;go_quiet (fail)
     go_wp2_with fail;go_ret2;exact Zi6 (Zez N.z (by omega)) p.z (by rfl) _
   | false =>
     clear T hL i HN O j m;go_wp2_with fail;go_quiet (fail)
     go_wp2_with fail;go_ret2;exact Zi6 (Zez N.z (by omega)) p.z (by rfl) _
  ·have i:L≠[]:=fun e=>hL (by rw [<- T,e];rfl);have q1:decide ((n:Int)>0)=true:=Xt;have q2:decide (0<n)=true:=Xt;have q5:((n:Int) == 0)=false:=Xb
   by_cases J:a.length=16
   ·have q3:decide ((a.length:Int)<16)=false:=Xf;have q4:decide (a.length<16)=false:=Xf;have c:=O.z;rw [J,Xaw] at c;rw [show ZaM 0 A a L o=(a,L,o) from rfl] at c;subst c;have af:=Y4 i;cases o with
    | true =>
      clear T hL i J HN O j m;go_wp2_with fail;go_quiet (fail)
      go_wp2_with fail;go_ret2;exact Zi6 (Zez N.z (by omega)) p.z (by have:=af.z;simp [this]) _
    | false =>
      clear T hL i J HN O j m;go_wp2_with fail;go_quiet (fail)
      go_wp2_with fail;go_ret2;exact Zi6 (Zez N.z (by omega)) p.z (by have:=af.z;simp [this]) _
   ·have q3:decide ((a.length:Int)<16)=true:=Xt;have q4:decide (a.length<16)=true:=Xt;have c:=O.z;rw [Zu7 i (by omega),show 16 - a.length - 1=16 - (a.length+1) by omega] at c;have f:=j.z A L o wr hA m.z;have X:=ZB9 hA L o;obtain ⟨⟨⟨r,E,D,F⟩,L4,o4⟩,hX⟩:∃s,Zce A L o=s:=⟨_,rfl⟩;rw [hX] at c f X;dsimp only at c f;unfold Zl3 at f;dsimp only at f;have HC:=Y4 f;have aG:=Y4 c;have aE:Y5 (r.length<=65):=Y4 X.1;have Z:Y5 (a.length<16):=Y4 (by omega);clear c f X hX i T hL J HN O m;go_wp2_with fail;refine HC.z.mono ?_;rintro e w4 ⟨rfl,h4,k4⟩;have aK:=k4.size;obtain ⟨q,hq⟩:=Xn w4.heap.size;have aM:R+1<=q:=by have:=ab.z;omega
    have ac:∀g,(Value.slice pl a.length cl).ownBlock=some g->R+1<=g/\g<wr.heap.size:=fun g hg=>by have:=N.z.cells hg;omega
    have ax:=N.z.keep k4 (fun _ _ h=>h.elim) (fun g hg=>by have:=ac g hg;omega);have ao:Below w.heap.size w w4:=p.z.trans (k4.below (B:=w.heap.size) (by have:=ab.z;omega) (fun b hb=>by omega));obtain ⟨w5,t⟩:=Xn (w4.alloc (.cells #[.string ⟨r.toArray⟩,.int .i64 E,.int .i64 D,.int .i64 F] 102));have G:Below w4.heap.size w4 w5:=by rw [<- t];exact (Below.refl _ _).alloc (Xa _) _
    have F5:Y5 (Za3 w5 q 102 (.string ⟨r.toArray⟩) (.int .i64 E) (.int .i64 D) (.int .i64 F)):=Y4 (by rw [<- t,<- hq];exact ZeP w4 102 _ _ _ _);have an:w5.heap.size=q+1:=by rw [<- t,<- hq];simp
    obtain ⟨w6,x⟩:=Xn (w5.alloc (.cells #[.string ⟨r.toArray⟩,.int .i64 E,.int .i64 D,.int .i64 F] 102));have z:Below w5.heap.size w5 w6:=by rw [<- x];exact (Below.refl _ _).alloc (Xa _) _
    have ae:w6.heap.size=q+2:=by rw [<- x];simp [an]
    have V:=Zdh (C:=Zbr) (S:=fun _=>False) (w:=w5) (vs:=[.string ⟨r.toArray⟩,.int .i64 E,.int .i64 D,.int .i64 F]) (d:=(r,(E,(D,F)))) 102 (Zf7.2 rfl);rw [x,an] at V;have al:=Y4 V;have ak:=Y4 ((ax.keep (Za (fun _=>True) G) (fun _ _ h=>h.elim) (fun _ _=>trivial)).keep (Za (fun _=>True) z) (fun _ _ h=>h.elim) (fun _ _=>trivial));have ap:=Y4 ((ao.trans (G.mono (by omega))).trans (z.mono (by omega)));have ah:=Y4 (Rd.keep (Rd.keep h4 (S:=fun _=>True) (Za _ G) trivial (fun _ _=>trivial) (by have:=H.z;omega)) (S:=fun _=>True) (Za _ z) trivial (fun _ _=>trivial) (by have:=H.z;omega));have F6:=Y4 (F5.z.below z (by omega));have M:=Y4 ac;have au:=Y4 t;have ar:=Y4 x;have u:=Y4 ae;clear V t x G z h4 k4 ax ao ac N aC p HC ab F5 ae;go_wp2_with (at_builtin;go_loud (rw [au.z,ar.z];refine Zo Zsv rfl _ _ rfl (R+1) (.slice pl a.length cl) a rfl ak.z (fun _ _ h=>h.elim) _ [(r,(E,(D,F)))] rfl al.z (by unfold maxLen;have:=Z.z;simp;omega) (by have:=Z.z;simp;omega) (by have:=u.z;omega) ?_;intro v7 w7 aa ad I;obtain ⟨p7,c7,rfl,_⟩:=aa.any.shape;have g7:=F6.z.keep I (fun e=>by have:=M.z q e;omega);have e0:=g7.c0;have ay:=Y4 aa;have aH:=Y4 (ap.z.trans (ad.mono (by omega)));have aF:=Y4 (ah.z.keep I (fun e=>by have:=M.z R e;omega) (fun k hk e=>by have:=M.z k e;have:=H.z;omega) (by have:=H.z;have:=u.z;omega));have aJ:=I.size;have aD:Y5 (R+1<=w7.heap.size):=Y4 (by have:=u.z;omega);clear aa ad I g7 ak al ap ah F6 au ar M))
    have aN:=Z.z;rw [show (a++[(r,(E,(D,F)))]).length=a.length+1 by simp] at ay;have aB:Y5 (ZaM (16 - (a++[(r,(E,(D,F)))]).length) r (a++[(r,(E,(D,F)))]) L4 o4=aq):=Y4 (by rw [Xd];exact aG.z);go_roundw
    case rel=>exact ⟨a++[(r,(E,(D,F)))],r,L4,o4,rfl,aE.z,by simp;omega,aB,aF,ay,aH,aD⟩
    case measure=>simp [ZsM];omega
end DT
namespace DT
open RowKit MM DM VM
variable {S T:Nat->Prop} {w w':World} {v:Value} {p:Option Addr}
abbrev Blk:=Xu×Xu
def ZuI:Codec Blk:=ZeH Zio (Zfq cU8)
theorem Zxf {e:List Value} {x:Blk}:ZuI.on S w e x↔∃v,e=[.string ⟨x.1.toArray⟩,v]/\ZB cU8 S w v x.2:=by
 constructor
 ·rintro ⟨a,b,rfl,c,v,rfl,d⟩;have c:a=[.string ⟨x.1.toArray⟩]:=c;exact ⟨v,by rw [c];rfl,d⟩
 ·rintro ⟨v,rfl,d⟩;exact ⟨[_],[v],rfl,rfl,v,rfl,d⟩
def ZeE (c:List ZN):Blk:=((c.headD Znq).1,ZA [] c)
def Zf1 (l:List ZN):List Blk:=(ZG l).map ZeE
theorem Zdu (l:List ZN):(Zf1 l).length=Zr l:=by unfold Zf1;rw [XF,Zo8]
theorem ZuK {l:List ZN} {j:Nat} (h:j<(Zf1 l).length):(Zf1 l)[j]=ZeE (Zw l j):=by
 unfold Zf1 at h ⊢;rw [Xax,Zqf]
theorem Zxj {B:Nat} {l:Xu} (h:ZB cU8 S w v l) (a:∀b,b<w.heap.size->S b->b<B):BIn B w v l:=Zpy h a
theorem ZnK {l:Xu} (h:ZF cU8 w v l):BIn w.heap.size w v l:=Zxj h fun b a _=>a
theorem Zo7 {n e:Nat} {l:List ZN} (h:ZF ZuI w (.slice p n e) (Zf1 l)) {k:Nat} (i:k<Zr l) :
  ∃b off v,p=some ⟨b,off,none⟩/\b<w.heap.size/\w.cell? ⟨b,off+k*2,none⟩=some (.string ⟨((Zw l k).headD Znq).1.toArray⟩)/\w.cell? ⟨b,off+k*2+1,none⟩=some v/\BIn w.heap.size w v (ZA [] (Zw l k)):=by
 have f:k<(Zf1 l).length:=by rw [Zdu];exact i
 obtain ⟨b,off,vs,j,d,_,a,c⟩:=h.at_ f;rw [Zxf] at a;obtain ⟨v,rfl,g⟩:=a;rw [ZuK] at g c;exact ⟨b,off,v,j,d,c 0 _ rfl,c 1 _ rfl,ZnK g⟩
def Zfm (S:Nat->Prop) (w:World) (g:Nat) (l:List ZN):Prop:=∃v,Two w g 170 (.int .i64 (l.length:Int)) v/\S g/\ZB ZuI S w v (Zf1 l)
theorem Zfm.keep {g:Nat} {l:List ZN} (h:Zfm S w g l) (a:Kep S w w') (c:∀b,b<w.heap.size->S b->T b):Zfm T w' g l:=by
 obtain ⟨v,d,e,f⟩:=h;exact ⟨v,d.keep a e,c g d.lt e,f.keep a c⟩
def ZcE (S:Nat->Prop) (w:World) (p:Option Addr) (l:List ZN):Prop:=(p=none/\l=[])\/∃g,p=some ⟨g,0,none⟩/\Zfm S w g l
theorem ZcE.keep {l:List ZN} (h:ZcE S w p l) (c:Kep S w w') (e:∀b,b<w.heap.size->S b->T b):ZcE T w' p l:=by
 rcases h with h|⟨g,a,d⟩
 ·exact .inl h
 ·exact .inr ⟨g,a,d.keep c e⟩
theorem ZcE.below {l:List ZN} (h:ZcE (fun _=>True) w p l) (a:Below w.heap.size w w'):ZcE (fun _=>True) w' p l:=h.keep (Za _ a) fun _ _ h=>h
theorem Zjg (p:Option Addr) (l:List ZN) (w:World) (h:ZcE (fun _=>True) w p l):Calls prog 117 #[.pointer p] w fun e w'=>e=.returned (.int .i64 (l.length:Int))/\w=w':=by
 rcases h with ⟨rfl,rfl⟩|⟨g,rfl,v,a,_⟩
 ·go_enter func117,ntmps117;go_wp2_with fail;go_ret;exact ⟨rfl,rfl⟩
 ·have c0:=a.c0;clear a;go_enter func117,ntmps117;go_wp2_with fail;go_ret;exact ⟨rfl,rfl⟩
def Zlr (l:List ZN) (w:World) (e:Ending) (w':World):Prop:=∃v',e=.returned v'/\ZC Zbr 102 w.heap.size (fun _=>False) w' v' l/\Below w.heap.size w w'
theorem ZgS (f:ByteArray) (v:Value) (c:List ZN) (w:World) (n:∀x∈c,okW x) (o:c.length<=16) (d:BIn w.heap.size w v (ZA [] c)):Calls prog 211 #[.agg #[.string f,v]] w (Zlr c w):=by
 obtain ⟨i,a⟩:=Xn (w.alloc (.cells #[.string f,v] 176));have b:Below w.heap.size w i:=by rw [<- a];exact (Below.refl _ _).alloc (Xa _) _
 have j:Two i w.heap.size 176 (.string f) v:=by rw [<- a];exact ZgA w 176 _ _
 have c0:=j.c0;have c1:=j.c1;have hs:=b.size;have H:=Zl6 w.heap.size v (ZA [] c) i (d.below b) hs;rw [Zl5 c 16 [] [] false n (by simp) o] at H;have m:=Y4 H;have h:=Y4 b;have g:=Y4 a;obtain ⟨p,cp,rfl,_⟩:=d.shape;clear H b a d j;go_enter func211,ntmps211;go_wp2_with fail;rw [g.z];go_wp2_with fail;refine m.z.mono ?_;rintro e w1 ⟨v1,rfl,k,l⟩;have q:=Y4 k;have r:=Y4 (h.z.trans (l.mono hs));clear k l m;go_wp2_with fail;go_ret;exact ⟨_,rfl,Zez q.z hs,r.z⟩
def atD (l:List ZN) (i:Int):Option ZN:=if 0<=i/\i<(l.length:Int) then l[i.toNat]? else none
theorem Zi1 {l:List ZN} (h:∀x∈l,okW x) (j:Nat):∀x∈Zw l j,okW x:=fun x a=>h x (XaX (Xaq a))
theorem Zr8 (p:Option Addr) (l:List ZN) (i:Int) (w:World) (h:ZcE (fun _=>True) w p l) (hw:∀x∈l,okW x) (hn:l.length<=262144) (h0 : -9223372036854775808<=i) (h1:i<=9223372036854775807):Calls prog 165 #[.pointer p,.int .i64 i] w (Found (atD l i) w):=by
 obtain ⟨R,hR⟩:=Xn w.heap.size;obtain ⟨C,f⟩:=Xn (w.alloc (.cells #[.string ⟨#[]⟩,.int .i64 0,.int .i64 0,.int .i64 0] 102));have r:Below w.heap.size w C:=by rw [<- f];exact (Below.refl _ _).alloc (Xa _) _
 have c:Y5 (Za3 C R 102 (.string ⟨#[]⟩) (.int .i64 0) (.int .i64 0) (.int .i64 0)):=Y4 (by rw [<- f,<- hR];exact ZeP w 102 _ _ _ _);have aj:C.heap.size=R+1:=by rw [<- f,<- hR];simp
 have I:=h.below r;have j:=Y4 (Zjg p l C I);have q:=Y4 r;have y:=Y4 f;clear f r h
 by_cases hi:0<=i/\i<(l.length:Int)
 ·obtain ⟨k,rfl⟩:=Xay hi.1;have hk:k<l.length:=by omega
  have hf:atD l (k:Int)=some l[k]:=by unfold atD;rw [Xe hi,XY,XZ hk]
  rw [hf];clear hf;have q1:decide ((k:Int)<0)=false:=Xf;have q2:decide ((k:Int)>=(l.length:Int))=false:=Xf;have q3:decide (k>=l.length)=false:=Xf;have q4:decide (l.length<=k)=false:=Xf;rcases I with ⟨_,rfl⟩|⟨g,rfl,v,U,_,H⟩
  ·simp at hk
  have hj:k / 16<Zr l:=by unfold Zr;omega
  obtain ⟨pb,cb,rfl,O,ah,_⟩:=H.shape;rw [Zdu] at H U O;obtain ⟨bb,off,vb,rfl,af,b0,b1,a⟩:=Zo7 H hj;obtain ⟨J,hJ⟩:=Xn (k / 16);obtain ⟨M,hM⟩:=Xn (k%16);have d1:(k:Int) / 16=(J:Int):=by omega
  have d2:(k:Int).tdiv 16=(J:Int):=by rw [Int.tdiv_eq_ediv_of_nonneg (by omega)];omega
  have d3:(k:Int)%16=(M:Int):=by omega
  have d4:(k:Int).tmod 16=(M:Int):=by rw [Int.tmod_eq_emod_of_nonneg (by omega)];omega
  rw [hJ] at b0 b1 a hj;have Y:(Zw l J).length=min 16 (l.length - 16*J):=ZbO l J;have F:M<(Zw l J).length:=by omega
  have D:l[k]=(Zw l J)[M]:=by rw [Zqd F];congr 1;omega
  rw [D];obtain ⟨FT,E⟩:∃s:ByteArray,(⟨((Zw l J).headD Znq).1.toArray⟩:ByteArray)=s:=⟨_,rfl⟩;rw [E] at b0;clear E;have d:=Y4 (ZgS FT vb (Zw l J) C (Zi1 hw J) (by omega) a);obtain ⟨pv,cv,rfl,_⟩:=a.shape;have c1:=U.c1;have ak:(J:Int)<(Zr l:Int):=by omega
  obtain ⟨X,V⟩:=Xn ((Zw l J)[M]);rw [V];obtain ⟨X1,x2,Z,x4⟩:=X;have HX:=Y4 V;have W:=Y4 F;have ae:Y5 (Zr l<=16384):=Y4 (by unfold Zr;omega);generalize Zr l=N at *;have ai:(M:Int)<((Zw l J).length:Int):=by omega
  clear hi hk hJ hM U H a D Y V;go_enter func165,ntmps165;go_wp2_with fail;rw [y.z];refine j.z.mono ?_;rintro e w1 ⟨rfl,rfl⟩;go_wp2_with fail;refine d.z.mono ?_;rintro e w2 ⟨v2,rfl,A,n⟩;obtain ⟨p2,c2,rfl,ad,_⟩:=A.any.shape;have G:=A.any;obtain ⟨b2,ab,rfl,ac,_,e0,e1,e2,e3⟩:=ZcU G W.z;rw [HX.z] at e0 e1 e2 e3;have m:=c.z.below n (by omega);have ag:=n.size;obtain ⟨m1,m2,m3,m4,⟨k1,k2⟩,⟨k3,k4⟩,k5,k6⟩:=m.all (.string ⟨X1.toArray⟩) (.int .i64 x2) (.int .i64 Z);have n0:=m.c0;have z:=Y4 (m.set (.string ⟨X1.toArray⟩) (.int .i64 x2) (.int .i64 Z) (.int .i64 x4));have t:=Y4 ((q.z.trans (n.mono (by omega))).trans ((ZfQ (g:=R) (w:=w2) (.string ⟨X1.toArray⟩) (.int .i64 x2) (.int .i64 Z) (.int .i64 x4)).below (B:=w.heap.size) (by omega) (fun b hb=>by omega)));clear A n G m d j c;go_wp2_with fail;refine bodyPost_ret (Zb4 (p:=4) (u:=5) rfl underlying102 rfl Zgc _ _ R _ _ _ _ rfl z.z) rfl ?_;exact ⟨rfl,t.z⟩
 ·have hf:atD l i=none:=by unfold atD;rw [Xc hi]
  rw [hf];have f0:=c.z;obtain ⟨m1,m2,m3,m4,⟨k1,k2⟩,⟨k3,k4⟩,k5,k6⟩:=f0.all (.string ⟨#[]⟩) (.int .i64 0) (.int .i64 0);obtain ⟨n0,n1,n2,n3⟩:=f0.cells;have z:=c;have t:=q;have L:=Y4 (f0.set (.string ⟨#[]⟩) (.int .i64 0) (.int .i64 0) (.int .i64 0));have aa:=Y4 (q.z.trans ((ZfQ (g:=R) (w:=C) (.string ⟨#[]⟩) (.int .i64 0) (.int .i64 0) (.int .i64 0)).below (B:=w.heap.size) (by omega) (fun b hb=>by omega)))
  by_cases o:i<0
  ·have q1:decide (i<0)=true:=Xt;clear hi hf I f0 o c;go_enter func165,ntmps165;go_wp2_with fail;rw [y.z];go_wp2_with fail;refine bodyPost_ret (Zb4 (p:=4) (u:=5) rfl underlying102 rfl Zgc _ _ R _ _ _ _ rfl z.z) rfl ?_;exact ⟨rfl,t.z⟩
  ·have q1:decide (i<0)=false:=Xf;have q2:decide (i>=(l.length:Int))=true:=Xt;have q3:decide ((l.length:Int)<=i)=true:=Xt;clear hi hf I f0 o c;go_enter func165,ntmps165;go_wp2_with fail;rw [y.z];refine j.z.mono ?_;rintro e w1 ⟨rfl,rfl⟩;go_wp2_with fail;refine bodyPost_ret (Zb4 (p:=4) (u:=5) rfl underlying102 rfl Zgc _ _ R _ _ _ _ rfl L.z) rfl ?_;exact ⟨rfl,aa.z⟩
end DT
namespace DT
open RowKit MM DM
open EM (Zg Zan Zbc Zmw ZaC)
theorem ZA8 (x t:Xu):(Zg x t||(x == t)) = !Zg t x:=by
 by_cases e:x=t
 ·subst e;simp [Zbc]
 ·have a:(x == t)=false:=by rw [X6];exact e
  rw [a,Bool.or_false];cases h:Zg x t with
  | true=>rw [Zmw h];rfl
  | false=>rw [ZaC h e];rfl
theorem Zta {l:List ZN} {i:Nat} (hi:i<l.length) (t:Xu):Za2 t (l.drop i)=(Zg t l[i].1&&Za2 l[i].1 (l.drop (i+1))):=by
 rw [X7 hi,Za2]
theorem ZdH (v:Value) (l:List ZN) (t0:Xu) (w:World) (x:ZF Zbr w v l):Calls prog 105 #[v,.string ⟨t0.toArray⟩] w fun e w'=>e=.returned (.bool (Za2 t0 l))/\Below w.heap.size w w':=by
 obtain ⟨p,L,rfl,F,y,_⟩:=x.shape;unfold maxLen at y;obtain ⟨g,c⟩:=Xn (Za2 t0 l);have A:Y5 (Za2 t0 (l.drop 0)=g):=Y4 c;rw [c];have J:=Y4 x;clear x c;go_enter func105,ntmps105;go_wp2_with fail
 go_loopw [1,9] (fun D u wr=>∃(i:Nat) (t:Xu),i<=l.length/\D=.string ⟨t.toArray⟩/\u=.int .i64 i/\Y5 (Za2 t (l.drop i)=g)/\Y5 (Below w.heap.size w wr)) (fun _ u _=>l.length - (intOf u).toNat)
 case atStart=>exact ⟨0,t0,by omega,rfl,rfl,A,Y4 (Below.refl _ _)⟩
 case round =>
  obtain ⟨i,t,hi,rfl,rfl,q,o⟩:=hrel;clear A
  by_cases h:i<l.length
  ·have G:decide ((i:Int)<(l.length:Int))=true:=Xt;have E:decide (i<l.length)=true:=Xt;have q3:(i:Int)<(l.length:Int):=by omega
   obtain ⟨b,off,rfl,M,_,c1,c2,c3,c4⟩:=ZcU (ZF.below J.z o.z) h;have a:=q.z;rw [Zta h] at a;generalize l[i]=X at *;obtain ⟨f,z,B,C⟩:=X;dsimp only at *;have d:=ZA8 f t;have O:=Zan f t;generalize Zg f t=r at *;obtain ⟨s,m⟩:=Xn ((f == t));rw [m] at d;obtain ⟨W,H⟩:=Xn (wr.alloc (.cells #[.string ⟨f.toArray⟩,.int .i64 z,.int .i64 B,.int .i64 C] 102));have j:Y5 (Below w.heap.size w (wr.alloc (.cells #[.string ⟨f.toArray⟩,.int .i64 z,.int .i64 B,.int .i64 C] 102))):=Y4 (o.z.trans ((Below.refl _ _).alloc o.z.size _));clear q H;obtain ⟨N,n⟩:=Xn (Zg t f);rw [n] at d a;clear n;cases N with
   | true =>
     rw [Xac] at a;have I:=Y4 a;obtain ⟨rfl,rfl⟩:r=false/\s=false:=by cases r<;>cases s<;>simp_all
     clear a d;go_wp2_with fail;go_roundw
     case rel=>exact ⟨i+1,f,by omega,rfl,by go_num,I,j⟩
     case measure=>simp [intOf];omega
   | false =>
     rw [Xab] at a;subst a;have k:Y5 ((r||s)=true):=Y4 d;clear d;cases r with
     | true =>
       clear k m;go_wp2_with fail;go_ret;exact ⟨rfl,j.z⟩
     | false =>
       obtain rfl:s=true:=by have:=k.z;simpa using this
       clear k;go_wp2_with fail;go_ret;exact ⟨rfl,j.z⟩
  ·obtain rfl:i=l.length:=by omega
   have G:decide ((l.length:Int)<(l.length:Int))=false:=by simp
   have E:decide (l.length<l.length)=false:=by simp
   have hf:g=true:=by rw [<- q.z,Xaf];rfl
   subst hf;clear q h;go_wp2_with fail;go_ret;exact ⟨rfl,o.z⟩
instance (x:ZN):Decidable (okW x):=by unfold okW;exact inferInstance
theorem Zka (x:ZN) (w:World):Calls prog 131 #[Zl3 x] w fun e w'=>e=.returned (.bool (!decide (okW x)))/\Below w.heap.size w w':=by
 obtain ⟨d,a,b,c⟩:=x;unfold Zl3;dsimp only;have hz:=ZaX d;have g:Y5 (Below w.heap.size w (w.alloc (.cells #[.string ⟨d.toArray⟩,.int .i64 a,.int .i64 b,.int .i64 c] 102))):=Y4 ((Below.refl _ _).alloc (Xa _) _);have f:Y5 (decide (okW (d,a,b,c))=decide (d.length<=65/\(0<=a/\a<=67108864)/\(0<=b/\b<=67108864)/\(0<=c/\c<=67108864))):=Y4 (by simp only [okW]);go_enter func131,ntmps131;go_wp2_with fail
 all_goals go_ret
 all_goals refine ⟨Xr (fun b=>Ending.returned (.bool b)) ?_,g.z⟩
 all_goals rw [f.z,Xa3]
 all_goals simp only [Bool.or_eq_true,Bool.not_eq_true',Xg,Xj,true_iff]
 all_goals omega
def Zh3 (x:ZN):Bool := !decide (okW x)
theorem Zw8 {l:List ZN} {i:Nat} (hi:i<l.length):(l.drop i).any Zh3=(Zh3 l[i]||(l.drop (i+1)).any Zh3):=by
 rw [X7 hi,List.any_cons]
theorem ZA6 (v:Value) (l:List ZN) (w:World) (s:ZF Zbr w v l):Calls prog 192 #[v,.func (.func 131) #[] #[]] w fun e w'=>∃r:Int,e=.returned (.int .i64 r)/\decide (r>=0)=l.any Zh3/\Below w.heap.size w w':=by
 obtain ⟨p,E,rfl,z,t,_⟩:=s.shape;unfold maxLen at t;obtain ⟨f,c⟩:=Xn (l.any Zh3);have x:Y5 ((l.drop 0).any Zh3=f):=Y4 c;rw [c];have D:=Y4 s;clear s c;go_enter func192,ntmps192;go_wp2_with fail
 go_loopw [8] (fun q wr=>∃i:Nat,i<=l.length/\q=.int .i64 i/\Y5 ((l.drop i).any Zh3=f)/\Y5 (Below w.heap.size w wr)) (fun q _=>l.length - (intOf q).toNat)
 case atStart=>exact ⟨0,by omega,rfl,x,Y4 (Below.refl _ _)⟩
 case round =>
  obtain ⟨i,hi,rfl,m,j⟩:=hrel;clear x
  by_cases g:i<l.length
  ·have A:decide ((i:Int)<(l.length:Int))=true:=Xt;have y:decide (i<l.length)=true:=Xt;have q3:(i:Int)<(l.length:Int):=by omega
   obtain ⟨b,off,rfl,F,_,c1,c2,c3,c4⟩:=ZcU (ZF.below D.z j.z) g;have a:=m.z;rw [Zw8 g] at a;generalize l[i]=X at *;have k:=Zka X wr;have u:Zh3 X = !decide (okW X):=rfl;rw [<- u] at k;generalize Zh3 X=o at *;obtain ⟨X1,x2,x3,x4⟩:=X;unfold Zl3 at k;dsimp only at *;have n:=Y4 k;clear k u m;cases o with
   | true =>
     rw [Bool.true_or] at a;subst a;go_wp2_with fail;refine n.z.mono ?_;rintro e C ⟨rfl,d⟩;have h:=Y4 (j.z.trans (d.mono j.z.size));clear d n;go_wp2_with fail;go_ret;exact ⟨_,rfl,Xs (by omega),h.z⟩
   | false =>
     rw [Bool.false_or] at a;have B:=Y4 a;clear a;go_wp2_with fail;refine n.z.mono ?_;rintro e C ⟨rfl,d⟩;have h:=Y4 (j.z.trans (d.mono j.z.size));clear d n;go_wp2_with fail;go_roundw
     case rel=>exact ⟨i+1,by omega,by go_num,B,h⟩
     case measure=>simp [intOf];omega
  ·obtain rfl:i=l.length:=by omega
   have A:decide ((l.length:Int)<(l.length:Int))=false:=by simp
   have y:decide (l.length<l.length)=false:=by simp
   have hf:f=false:=by rw [<- m.z,Xaf];rfl
   subst hf;clear m g;go_wp2_with fail;go_ret;exact ⟨_,rfl,by decide,j.z⟩
theorem Zxm (v:Value) (l:List ZN) (w:World) (c:ZF Zbr w v l):Calls prog 130 #[v,.func (.func 131) #[] #[]] w fun e w'=>e=.returned (.bool (l.any Zh3))/\Below w.heap.size w w':=by
 have a:=Y4 (ZA6 v l w c);generalize l.any Zh3=g at *;clear c;go_enter func130,ntmps130;go_wp2_with fail;refine a.z.mono ?_;rintro e w1 ⟨r,rfl,d,b⟩;have f:=Y4 b;clear b a;go_wp2_with fail;go_ret;exact ⟨by rw [<- d];rfl,f.z⟩
open RowKit MM DM VM GB
variable {B q:Nat} {w W W':World} {v:Value} {l:Xu}
theorem Za5 (v:Value) (l:Xu) (n:Int) (w:World) (C:0<=n) (h1:n<=9223372036854775807) (b:Zd 0 w v l) (y:l.length<=1000000000000) :
  Calls prog 198 #[v,.int .i64 n] w (Zlp (l++Zb n.toNat) v w):=by
 obtain ⟨m,rfl⟩:=Xay C;rw [XY];have a:=VP.Zdd (.slice none 0 0) [] m w (by omega) (Zv.nil_ w) (by simp);rw [XE] at a;have t:=Zc m;have c:=Zaz m;obtain ⟨M,x⟩:=Xn (Zb m);rw [x] at a t c ⊢;have A:=Y4 a;have z:=Y4 b;have s:=Y4 c;have hw:IntKind.u64.wrap (m:Int)=(m:Int):=by rw [IntKind.wrap_u64];omega
 obtain ⟨p,D,rfl,_⟩:=(Zd.brow b).shape;clear a b x c;go_enter func198,ntmps198;go_wp2_with fail;refine A.z.mono ?_;rintro e w1 ⟨v1,rfl,d,f⟩;have i:=Y4 (z.z.keep f);have o:=Y4 (Zd.brow d);have r:=Y4 f;have u:=Y4 (Zaw z.z);obtain ⟨p1,c1,rfl,_⟩:=(Zd.brow d).shape;clear d f A;go_wp2_with (at_builtin;refine Zn rfl _ _ rfl _ l rfl i.z _ M rfl o.z s.z (by omega) ?_)
 intro v2 w2 g h;have k:=Y4 g;have j:=Y4 (h.of_below r.z u.z);clear g h;go_wp2_with fail;go_ret;exact ⟨_,rfl,k.z,j.z⟩
def Zb5 (B q:Nat) (w W:World) (v:Value) (l:Xu):Prop:=Zd B W v l/\Below B w W/\B<=W.heap.size/\q<W.heap.size/\∀g,v.ownBlock=some g->g≠q
theorem Zb5.grown {v':Value} {m:Xu} (h:Zb5 B q w W v l) (i:Zd 0 W' v' m) (b:Grown W W' v v'):Zb5 B q w W' v' m/\W'.heap[q]? = W.heap[q]? := by
 obtain ⟨p,o,n,j,f⟩:=h;have hs:=b.1.size;have a:∀k,v.ownBlock=some k->B<=k:=fun k c=>(World.ownsRow.lt p k c).1;refine ⟨⟨Zd.from i fun k c => ?_,o.trans (b.kep.below n fun k c e=>by have:=a k e;omega),by omega,by omega,fun g d => ?_⟩,b.1.block q j fun e=>f q e.symm rfl⟩
 ·rcases b.2 k c with e|e
  ·exact a k e
  ·omega
 ·rcases b.2 g d with e|e
  ·exact f g e
  ·omega
theorem Zb5.below (h:Zb5 B q w W v l) (a:Below W.heap.size W W'):Zb5 B q w W' v l:=by
 obtain ⟨d,e,c,h4,b⟩:=h;have hs:=a.size;exact ⟨d.keep a,e.trans (a.mono c),by omega,by omega,b⟩
def ZdW (a:List Int):Xu:=a.flatMap fun z=>Zb z.toNat
theorem ZsR {a:List Int} {j:Nat} (h:j<a.length):ZdW (a.take (j+1))=ZdW (a.take j)++Zb a[j].toNat:=by
 unfold ZdW;rw [XG h,XaQ];simp
theorem ZxO (a:Xu) (x:ZN):Zea a x=Zb (ZL a x.1)++Z5 (x.1.drop (ZL a x.1))++ZdW [x.2.1,x.2.2.1,x.2.2.2]:=by
 unfold Zea ZdW;simp
theorem ZgT:∀(l:List ZN) (a:Xu),(∀x∈l,okW x)->(ZA a l).length<=115*l.length
 | [],_,_=>by simp [ZA]
 | x::r,a,h=>by
   have d:=h x (by simp);have h2:=ZgT r x.1 fun y b=>h y (by simp [b]);have b1:=Zc (ZL a x.1);have b2:=Zc x.2.1.toNat;have b3:=Zc x.2.2.1.toNat;have b4:=Zc x.2.2.2.toNat;have c:=(EM.ZdM (x.1.drop (ZL a x.1))).1;rw [Xp] at c;have:=d.1;rw [ZA,Xd,Xh];unfold Zea;simp only [Xd];omega
theorem Zr6 (v u:Value) (L:Xu) (c:List ZN) (w:World) (ah:Zd 0 w v L) (hu:ZF Zbr w u c) (hc:∀x∈c,okW x) (hn:c.length<=16) (bd:L.length<=1000000000) :
  Calls prog 134 #[v,u] w (Zlp (L++Ze2 c) v w):=by
 obtain ⟨p,bh,rfl,be,aV,_⟩:=hu.shape;unfold maxLen at aV;have HU:=Y4 hu;have HX:=Y4 hc;have HV:=Y4 ah;have I:Y5 (ZA [] (c.take c.length)=ZA [] c):=Y4 (by rw [XB]);have ad:=Y4 (fun i=>ZgT (c.take i) [] (fun x h=>hc x (Xaq h)));have aM:Y5 (Zd w.heap.size w (.slice none 0 0) (ZA [] (c.take 0))):=Y4 (World.ownsRow_nil _ _ _ _);clear hu hc ah;go_enter func134,ntmps134;go_wp2_with fail
 go_loopw [5,6,14] (fun bv av iv wr=>∃(i:Nat) (A:Xu),i<=c.length/\iv=.int .i64 i/\av=.string ⟨A.toArray⟩/\Y5 (A=Zml c i)/\A.length<=65/\Y5 (Zd w.heap.size wr bv (ZA [] (c.take i)))/\Y5 (Below w.heap.size w wr)) (fun _ _ iv _=>c.length - (intOf iv).toNat)
 case atStart=>exact ⟨0,[],by omega,rfl,rfl,Y4 rfl,by simp,aM,Y4 (Below.refl _ _)⟩
 case round =>
  obtain ⟨i,A,hi,rfl,rfl,HA,hA,HO,Y⟩:=hrel;clear aM
  by_cases O:i<c.length
  ·have q1:decide ((i:Int)<(c.length:Int))=true:=Xt;have q2:decide (i<c.length)=true:=Xt;have q3:(i:Int)<(c.length:Int):=by omega
   obtain ⟨b,off,rfl,bf,_,c1,c2,c3,c4⟩:=ZcU (ZF.below HU.z Y.z) O;have n:=ZlJ O;have aJ:=Zmm O;have aT:=HX.z c[i] (XI O);have aE:=ad.z (i+1);rw [<- HA.z] at n;rw [Xi] at aE;generalize c[i]=X at *;rw [ZxO] at n;obtain ⟨t,V,U,z3⟩:=X;dsimp only at *;obtain ⟨aF,S,f,s⟩:=aT;dsimp only at aF S f s;have a6:=ZdL A t;have bb:=ZaX t;have al:=fun W=>Zm6 A t W (by omega) (by omega);obtain ⟨k,hk⟩:=Xn (ZL A t);rw [hk] at n a6 al;obtain ⟨L0,ay⟩:=Xn (ZA [] (c.take i));rw [ay] at n HO;have HN:Y5 (ZA [] (c.take (i+1))=L0++Zb k++Z5 (t.drop k)++ZdW [V,U,z3]):=Y4 (by rw [n];simp only [Xk]);have F:Y5 ((L0++Zb k++Z5 (t.drop k)++ZdW [V,U,z3]).length<=2000):=Y4 (by rw [<- HN.z];omega);have aZ:=Y4 aJ;have au:=Y4 al;have aU:=Zor t k;have y:=Y4 (fun W=>VP.Zho (.slice none 0 0) [] ⟨(t.drop k).toArray⟩ W (Zv.nil_ W) (by rw [ZaX,Xp];simp;omega));simp only [XE] at y;have bi:(k:Int)<=(t.length:Int):=by omega
   have a8:0<=(k:Int):=by omega
   obtain ⟨q,hq⟩:=Xn wr.heap.size;obtain ⟨pb,cb,rfl,_⟩:=(Zd.brow HO.z).shape;obtain ⟨w0,T⟩:=Xn (wr.alloc (.cells #[.string ⟨t.toArray⟩,.int .i64 V,.int .i64 U,.int .i64 z3] 102));have aa:Below wr.heap.size wr w0:=by rw [<- T];exact (Below.refl _ _).alloc (Xa _) _
   have az:Y5 (Zb5 w.heap.size q w w0 (.slice pb L0.length cb) L0):=Y4 (by
    have h1:Zb5 w.heap.size q w w0 (.slice pb L0.length cb) L0:=⟨HO.z.keep aa,Y.z.trans (aa.mono Y.z.size),by have:=Y.z.size;have:=aa.size;omega,by rw [<- T,<- hq];simp,fun g hg=>by have:=(World.ownsRow.lt HO.z g hg).2;omega⟩;exact h1)
   have T0:Y5 (Za3 w0 q 102 (.string ⟨t.toArray⟩) (.int .i64 V) (.int .i64 U) (.int .i64 z3)):=Y4 (by rw [<- T,<- hq];exact ZeP wr 102 _ _ _ _);have a3:=Y4 T;clear n aJ aE hk al ay T aa HO Y ad;go_wp2_with fail;rw [a3.z];refine (au.z _).mono ?_;rintro e w1 ⟨rfl,m,hm⟩;have ap:Below w0.heap.size w0 w1:=by rw [hm];exact MM.below_drewN (Below.refl _ _) m
   have ar:=Y4 (az.z.below ap);have T1:=Y4 (T0.z.below ap T0.z.lt);have am:=Y4 (Za5 (.slice pb L0.length cb) L0 (k:Int) w1 a8 (by omega) (Zd.zero ar.z.1) (by have:=F.z;simp only [Xd] at this;omega));rw [XY] at am;clear hm ap az T0 au;go_wp2_with fail;refine am.z.mono ?_;rintro e w2 ⟨v2,rfl,S,aL⟩;obtain ⟨af,aD⟩:=ar.z.grown S aL;have ao:=Y4 af;have t2:Za3 w2 q 102 (.string ⟨t.toArray⟩) (.int .i64 V) (.int .i64 U) (.int .i64 z3):=aD.trans T1.z;have T2:=Y4 t2;obtain ⟨f0,f1,f2,f3⟩:=t2.cells;obtain ⟨p2,c2,rfl,_⟩:=(Zd.brow S).shape;clear S aL af aD t2 ar T1 am;have ac:=HN;obtain ⟨L1,aI⟩:=Xn (L0++Zb k);rw [aI] at ao ac F ⊢;have bc:True:=trivial;have an:=Y4 (y.z w2);obtain ⟨G,o⟩:=Xn (Z5 (t.drop k));have ae:Y5 (G≠[]):=Y4 (by rw [<- o];exact ZfW _);rw [o] at an ac F;clear aI o y HN;go_wp2_with fail;refine an.z.mono ?_;rintro e w3 ⟨v3,rfl,f,E⟩;have aj:=Y4 (ao.z.below E);have T3:=Y4 (T2.z.below E T2.z.lt);have ab:=Y4 (Zd.brow f);have aK:Y5 (L1.length+G.length<=2000):=Y4 (by have:=F.z;simp only [Xd] at this;omega);obtain ⟨p3,c3,rfl,_⟩:=(Zd.brow f).shape;clear f E ao T2 an f0 f1 f2 f3;go_wp2_with (at_builtin;go_loud (refine Zn rfl _ _ rfl _ L1 rfl (Zd.zero aj.z.1) _ G rfl ab.z ae.z (by have:=aK.z;omega) ?_;intro v4 w4 s R;have a:=aj.z.grown s R;have ak:=Y4 a.1;have T4:Y5 (Za3 w4 q 102 (.string ⟨t.toArray⟩) (.int .i64 V) (.int .i64 U) (.int .i64 z3)):=Y4 (a.2.trans T3.z);clear a s R aj T3;obtain ⟨f0,f1,f2,f3⟩:=T4.z.cells))
   obtain ⟨r,hr⟩:=Xn w4.heap.size;obtain ⟨w5,H⟩:=Xn (w4.alloc (.cells #[.int .i64 V,.int .i64 U,.int .i64 z3] 3));rw [H];have ai:Below w4.heap.size w4 w5:=by rw [<- H];exact (Below.refl _ _).alloc (Xa _) _
   obtain ⟨d,N⟩:∃d:List Int,[V,U,z3]=d:=⟨_,rfl⟩;have aC:d.length=3:=by rw [<- N];rfl
   have HZ:Y5 (w5.heap[r]? = some (.cells (d.map fun z=>Value.int .i64 z).toArray 3 (0,0))):=Y4 (by rw [<- N,<- H,<- hr];exact heap_alloc_new w4 _);have aP:Y5 (∀z∈d,0<=z/\z<=67108864):=Y4 (by rw [<- N];intro z hz;simp only [XT,Xbk,or_false] at hz;rcases hz with rfl|rfl|rfl<;>assumption);rw [N] at ac F;have aG:=Y4 aC;have aA:Y5 (Zb5 w.heap.size q w w5 v4 (L1++G++ZdW (d.take 0))):=Y4 (by have:=ak.z.below ai;simpa [ZdW] using this);have T5:=Y4 (T4.z.below ai T4.z.lt);have ax:Y5 (∀g,v4.ownBlock=some g->g≠r):=Y4 (fun g hg=>by have:=(World.ownsRow.lt ak.z.1 g hg).2;omega);have aO:Y5 (r<w5.heap.size):=Y4 (by rw [<- H,<- hr];simp)
   have ba:Y5 (∀j,(L1++G++ZdW (d.take j)).length<=3000):=Y4 (fun j=>by
    have h1:=F.z
    have h2:(ZdW (d.take j)).length<=(ZdW d).length:=by
     unfold ZdW
     conv=>rhs;rw [<- X8 j d]
     rw [XaQ,Xd];omega
    simp only [Xd] at h1 ⊢;omega)
   rw [hr];clear H ai N aC hr ak T4 ab aK ae F f0 f1 f2 f3 c1 c4
   go_loopw [5,40] (fun bv jv W=>∃(j:Nat),j<=3/\jv=.int .i64 (j:Int)/\Y5 (Zb5 w.heap.size q w W bv (L1++G++ZdW (d.take j)))/\Y5 (Za3 W q 102 (.string ⟨t.toArray⟩) (.int .i64 V) (.int .i64 U) (.int .i64 z3))/\Y5 (W.heap[r]? = some (.cells (d.map fun z=>Value.int .i64 z).toArray 3 (0,0)))/\Y5 (∀g,bv.ownBlock=some g->g≠r)/\Y5 (r<W.heap.size)) (fun _ jv _=>3 - (intOf jv).toNat)
   case atStart=>exact ⟨0,by omega,rfl,aA,T5,HZ,ax,aO⟩
   case round =>
    obtain ⟨j,hj,rfl,BS,TT,HC,HG,HS⟩:=hrel;clear aA T5 HZ ax aO
    by_cases J:j<3
    ·have j1:decide ((j:Int)<3)=true:=Xt;have j2:decide (j<3)=true:=Xt;have j3:(j:Int)<3:=by omega
     have Z:j<d.length:=by rw [aG.z];exact J
     have fz:wr.cell? ⟨r,j,none⟩=some (.int .i64 d[j]):=by
      rw [cell_of_row wr r j _ _ _ HC.z];simp [Z]
     have aB:=aP.z d[j] (XI Z);have n:=ZsR Z;generalize d[j]=z at *;have HA:=Y4 (Za5 u5 (L1++G++ZdW (d.take j)) z wr aB.1 (by omega) (Zd.zero BS.z.1) (by have:=ba.z j;omega));have a5:Y5 (L1++G++ZdW (d.take (j+1))=L1++G++ZdW (d.take j)++Zb z.toNat):=Y4 (by rw [n];simp only [Xk]);have HJ:=Y4 J;clear n Z aB J;go_wp2_with fail;refine HA.z.mono ?_;rintro e w6 ⟨v6,rfl,aq,M⟩;rw [<- a5.z] at aq;obtain ⟨a,aN⟩:=BS.z.grown aq M;have aX:=Y4 a;have T6:Y5 (Za3 w6 q 102 (.string ⟨t.toArray⟩) (.int .i64 V) (.int .i64 U) (.int .i64 z3)):=Y4 (aN.trans TT.z);have aS:Y5 (w6.heap[r]? = some (.cells (d.map fun z=>Value.int .i64 z).toArray 3 (0,0))):=Y4 ((M.1.block r HS.z (fun e=>HG.z r e.symm rfl)).trans HC.z)
     have a9:Y5 (∀g,v6.ownBlock=some g->g≠r):=Y4 (fun g hg=>by
      rcases M.2 g hg with e|e
      ·exact HG.z g e
      ·have:=HS.z;omega)
     have a0:Y5 (r<w6.heap.size):=Y4 (by have:=HS.z;have:=M.1.size;omega);clear a aN aq M BS TT HC HG HS HA;go_wp2_with fail;have J:=HJ.z;go_roundw
     case rel=>exact ⟨j+1,by omega,by go_num,aX,T6,aS,a9,a0⟩
     case measure=>simp [intOf];omega
    ·obtain rfl:j=3:=by omega
     have j1:decide (((3:Nat):Int)<3)=false:=by decide
     have j2:decide ((3:Nat)<3)=false:=by decide
     obtain ⟨f0,f1,f2,f3⟩:=TT.z.cells;have a:=BS.z;rw [XO (by rw [aG.z];exact Xa _),<- ac.z] at a;have a2:=Y4 a.1;have aW:=Y4 a.2.1;clear a BS TT HC HG HS J;go_wp2_with fail;go_roundw
     case rel=>exact ⟨i+1,t,by omega,by go_num,rfl,Y4 aZ.z.symm,aF,a2,aW⟩
     case measure=>simp [intOf];omega
  ·obtain rfl:i=c.length:=by omega
   have q1:decide ((c.length:Int)<(c.length:Int))=false:=by simp
   have q2:decide (c.length<c.length)=false:=by simp
   have ho:=HO.z;rw [I.z] at ho;obtain ⟨C,hC⟩:=Xn (ZA [] c);have aH:=ad.z c.length;rw [I.z,XB] at aH;have ag:Ze2 c=Z5 C:=by unfold Ze2;rw [hC]
   rw [hC] at ho aH;have hs:=Y.z.size;have D:=Zd.brow ho;have bj:=D.conv;obtain ⟨pb,cb,rfl,_⟩:=D.shape;have y:=VP.Zho (.slice none 0 0) [] ⟨C.toArray⟩ wr (Zv.nil_ wr) (by rw [ZaX];simp;omega);simp only [XE] at y;have HP:=Y4 y;obtain ⟨G,o⟩:=Xn (Z5 C);have a1:Y5 (Ze2 c=G):=Y4 (ag.trans o);have ae:Y5 (G≠[]):=Y4 (by rw [<- o];exact ZfW _)
   have bg:G.length<=3000:=by
    rw [<- o];have:=(EM.ZdM C).1;omega
   rw [o] at HP;have aY:=Y4 (Zaw HV.z);have aw:=Y4 (HV.z.keep Y.z);obtain ⟨pv,cv,rfl,_⟩:=(Zd.brow HV.z).shape;clear ho D y o hC ag HO I ad O HA HV;go_wp2_with fail;refine HP.z.mono ?_;rintro e w3 ⟨v3,rfl,f,E⟩;have a7:=Y4 (aw.z.keep E);have a4:=Y4 (Y.z.trans (E.mono hs));have ab:=Y4 (Zd.brow f);obtain ⟨p3,c3,rfl,_⟩:=(Zd.brow f).shape;clear f E HP aw Y;go_wp2_with (at_builtin;refine Zn rfl _ _ rfl _ L rfl a7.z _ G rfl ab.z ae.z (by omega) ?_)
   intro v4 w4 s R;rw [<- a1.z] at s;have aR:=Y4 s;have aQ:=Y4 (R.of_below a4.z aY.z);clear s R;go_wp2_with fail;go_ret;exact ⟨_,rfl,aR.z,aQ.z⟩
end DT
namespace DT
open RowKit MM DM
variable {k j:Nat}
def tK (l:List ZN) (k:Nat):Xu:=(l.getD k Znq).1
theorem Zht {l:List ZN} (h:k<l.length):tK l k=l[k].1:=by unfold tK;rw [XaO,XZ h];rfl
theorem ZjC {l:List ZN} (h:k<(Zw l j).length):tK (Zw l j) k=tK l (16*j+k):=by
 have h2:=ZbO l j;rw [Zht h,Zht (by omega),Zqd h]
theorem ZxZ {l:List ZN} (h:j<Zr l):((Zw l j).headD Znq).1=tK l (16*j):=by
 have h2:=ZbO l j;unfold Zr at h;have a:0<(Zw l j).length:=by omega
 rw [<- Xad (16*j),<- ZjC a,Zht a];obtain ⟨c,b⟩:=Xn (Zw l j);simp only [b] at a ⊢;cases c with
 | nil=>simp at a
 | cons x r=>rfl
def Zks (H:Nat) (a:Array Value) (q:Xu->Bool) (w:World):Prop :=
 (∀args W,(callFunc H args).run prog W=.ok (.enter H args) W)/\∀(W:World) (t:Xu),Below w.heap.size w W->Calls prog H (#[.string ⟨t.toArray⟩]++a) W fun e w'=>e=.returned (.bool (q t))/\Below W.heap.size W w'
theorem Zks.below {H:Nat} {b:Array Value} {q:Xu->Bool} {w w':World} (h:Zks H b q w) (a:Below w.heap.size w w'):Zks H b q w':=⟨h.1,fun W t c=>h.2 W t (a.trans (c.mono a.size))⟩
theorem ZCq (H:Nat) (I:Array Value) (q:Xu->Bool) (L V g:Nat) (l:List ZN) (j:Nat) (w:World) (y:Zks H I q w) (C:w.cell? ⟨L,0,none⟩=some (.func (.func H) #[] I)) (D:w.cell? ⟨V,0,none⟩=some (.pointer (some ⟨g,0,none⟩)))
  (hD:Zfm (fun _=>True) w g l) (O:j<Zr l) (hn:l.length<=262144):Calls prog 217 (#[.int .i64 (j:Int)]++#[.pointer (some ⟨L,0,none⟩),.pointer (some ⟨V,0,none⟩)]) w fun e w'=>e=.returned (.bool (!q (tK l (16*j))))/\Below w.heap.size w w':=by
 have aa:prog.follows .mixedOrders=true:=by kernel_rfl
 have eg:=y.1;obtain ⟨v,s,_,r⟩:=hD;obtain ⟨pb,ae,rfl,z,ad,_⟩:=r.shape;rw [Zdu] at r s z;obtain ⟨bb,off,vb,rfl,G,u,b1,m⟩:=Zo7 r O;rw [ZxZ O] at u;have c1:=s.c1;have E:=s.lt;obtain ⟨t,J⟩:=Xn (tK l (16*j));rw [J] at u ⊢;obtain ⟨i,f⟩:=Xn w.drew;have c:Below w.heap.size w i:=by rw [<- f];exact (Below.refl _ _).drew
 have F:=World.block_lt_of_cell? _ _ C;have A:=World.block_lt_of_cell? _ _ D;have R:=y.2 i t c;have U:=Y4 R;have o:=Y4 c;have ab:Zr l<=16384:=by unfold Zr;omega
 have ac:(j:Int)<(Zr l:Int):=by omega
 generalize Zr l=N at *;have M:=fun W (a:Kep (fun _=>True) w W)=>(a.cell F trivial 0).trans C;have Z:=fun W (a:Kep (fun _=>True) w W)=>(a.cell A trivial 0).trans D;have Y:=fun W (a:Kep (fun _=>True) w W)=>(a.cell E trivial 1).trans c1;have S:=fun W (a:Kep (fun _=>True) w W)=>(a.cell G trivial (off+j*2)).trans u;have p:Kep (fun _=>True) w i:=Za _ c;have b:=Y4 p;have x:=Y4 f;clear y C D s r m u b1 c1 J f c R p;go_enter func217,ntmps217;go_wp2_with fail;refine RK.Zal (T:=fun _=>True) [(0,true),(1,true),(2,true),(3,true),(4,true),(5,true),(6,true),(7,true),(8,true),(9,false),(10,true),(11,true)] (by kernel_rfl) (by kernel_rfl) rfl (by kernel_rfl) (fun _ _ d _ _ h=>by cases d<;>exact h) ?_;simp only [RK.Zt,XC,XN,XU,XV,XS];rw [x.z];have f1:=fun W (a:Kep (fun _=>True) i W)=>M W (b.z.trans a);have f2:=fun W (a:Kep (fun _=>True) i W)=>Z W (b.z.trans a);have f3:=fun W (a:Kep (fun _=>True) i W)=>Y W (b.z.trans a);have f4:=fun W (a:Kep (fun _=>True) i W)=>S W (b.z.trans a);clear M Z Y S;repeat ((first|(refine RK.take (by rfl) (by intro W a;go_simp;with_reducible rfl) ?_));simp only [Act.put,Xm,Xo,Xl])
 refine RK.alone (by rfl) (fun K X => ?_);go_simp;refine U.z.mono ?_;rintro e w1 ⟨rfl,n⟩;go_simp;refine X.z _ _ (Za _ n) ?_;clear X K;have B:=Y4 (o.z.trans (n.mono o.z.size));clear n U;repeat ((first|(refine RK.take (by rfl) (by intro W a;go_simp;with_reducible rfl) ?_));simp only [Act.put,Xm,Xo,Xl])
 refine RK.done ?_;go_wp2_with fail;go_ret;exact ⟨rfl,B.z⟩
theorem ZCr (H:Nat) (I:Array Value) (q:Xu->Bool) (L R:Nat) (p:Option Addr) (n o:Nat) (l:List ZN) (j:Nat) (w:World) (v:Zks H I q w) (C:w.cell? ⟨L,0,none⟩=some (.func (.func H) #[] I)) (r:w.cell? ⟨R,0,none⟩=some (.slice p n o))
  (E:ZF Zbr w (.slice p n o) l) (x:j<l.length) (hn:l.length<=262144):Calls prog 218 (#[.int .i64 (j:Int)]++#[.pointer (some ⟨L,0,none⟩),.pointer (some ⟨R,0,none⟩)]) w fun e w'=>e=.returned (.bool (!q (tK l j)))/\Below w.heap.size w w':=by
 have V:prog.follows .mixedOrders=true:=by kernel_rfl
 have eg:=v.1;obtain ⟨p',cap',M,y,aa,_⟩:=E.shape;simp only [Value.slice.injEq] at M;obtain ⟨rfl,rfl,rfl⟩:=M;obtain ⟨bb,off,rfl,G,_,s,xa,Y,X⟩:=ZcU E x;clear xa Y X;rw [<- Zht x] at s;obtain ⟨t,J⟩:=Xn (tK l j);rw [J] at s ⊢;obtain ⟨i,c⟩:=Xn w.drew;have a:Below w.heap.size w i:=by rw [<- c];exact (Below.refl _ _).drew
 have F:=World.block_lt_of_cell? _ _ C;have z:=World.block_lt_of_cell? _ _ r;have O:=Y4 (v.2 i t a);have m:=Y4 a;have B:(j:Int)<(l.length:Int):=by omega
 obtain ⟨N,U⟩:=Xn l.length;rw [U] at r hn y B;clear E x U;have b:Y5 (Kep (fun _=>True) w i):=Y4 (Za _ a);have f1:=fun W (f:Kep (fun _=>True) i W)=>((b.z.trans f).cell F trivial 0).trans C;have A:=fun W (f:Kep (fun _=>True) i W)=>((b.z.trans f).cell z trivial 0).trans r;have f4:=fun W (f:Kep (fun _=>True) i W)=>((b.z.trans f).cell G trivial (off+j*4)).trans s;have u:=Y4 c;have Z:=Y4 (And.intro f1 (And.intro A f4));clear v C r s J c a f1 A f4;go_enter func218,ntmps218;go_wp2_with fail;refine RK.Zal (T:=fun _=>True) [(0,true),(1,true),(2,true),(3,true),(4,true),(5,true),(6,false),(7,true),(8,true)] (by kernel_rfl) (by kernel_rfl) rfl (by kernel_rfl) (fun _ _ d _ _ h=>by cases d<;>exact h) ?_;simp only [RK.Zt,XC,XN,XU,XV,XS];rw [u.z];obtain ⟨f1,A,f4⟩:=Z.z;repeat ((first|(refine RK.take (by rfl) (by intro W f;go_simp;with_reducible rfl) ?_));simp only [Act.put,Xm,Xo,Xl])
 refine RK.alone (by rfl) (fun K S => ?_);go_simp;refine O.z.mono ?_;rintro e w1 ⟨rfl,g⟩;go_simp;refine S.z _ _ (Za _ g) ?_;clear S K;have D:=Y4 (m.z.trans (g.mono m.z.size));clear g O;repeat ((first|(refine RK.take (by rfl) (by intro W f;go_simp;with_reducible rfl) ?_));simp only [Act.put,Xm,Xo,Xl])
 refine RK.done ?_;go_wp2_with fail;go_ret;exact ⟨rfl,D.z⟩
theorem Zwx (p:Nat->Bool):Zcr p 0 0:=⟨Xa _,fun h=>by omega,fun h=>by omega⟩
theorem Zwy {l:List ZN} {q:Xu->Bool} {r s:Nat} (m:Zcr (fun j => !q (tK l (16*j))) (Zr l) r) (g:0<r) (n:Zcr (fun k => !q (tK (Zw l (r - 1)) k)) (Zw l (r - 1)).length s):Zcr (fun k => !q (tK l k)) l.length ((r - 1)*16+s):=by
 obtain ⟨a1,b,a3⟩:=m;obtain ⟨b1,f,d⟩:=n;have hs:=ZbO l (r - 1);have hN:Zr l=(l.length+15) / 16:=rfl;have b:=b g;dsimp only at b a3 f d ⊢
 have c:0<s:=by
  refine Nat.pos_of_ne_zero fun e => ?_;subst e;have h:=d (by omega);rw [ZjC (by omega),Xad,b] at h;cases h
 refine ⟨by omega,fun _ => ?_,fun i => ?_⟩
 ·have h:=f c;rw [ZjC (by omega)] at h;rw [show (r - 1)*16+s - 1=16*(r - 1)+(s - 1) by omega];exact h
 ·by_cases a:s<(Zw l (r - 1)).length
  ·have h:=d a;rw [ZjC a] at h;rw [show (r - 1)*16+s=16*(r - 1)+s by omega];exact h
  ·have h:=a3 (by omega);rw [show (r - 1)*16+s=16*r by omega];exact h
theorem Zty {l:List ZN} {q:Xu->Bool} (a:Zcr (fun j => !q (tK l (16*j))) (Zr l) 0):Zcr (fun k => !q (tK l k)) l.length 0:=by
 obtain ⟨_,_,a3⟩:=a;exact ⟨by omega,fun h=>by omega,fun b=>a3 (by unfold Zr;omega)⟩
def Znx (l:List ZN) (q:Xu->Bool) (w:World) (e:Ending) (w':World):Prop:=∃c:Nat,e=.returned (.int .i64 (c:Int))/\Zcr (fun k => !q (tK l k)) l.length c/\Below w.heap.size w w'
theorem ZhI (p:Option Addr) (l:List ZN) (H:Nat) (y:Array Value) (q:Xu->Bool) (w:World) (hp:ZcE (fun _=>True) w p l) (hq:Zks H y q w) (hw:∀x∈l,okW x) (hn:l.length<=262144) :
  Calls prog 175 #[.pointer p,.func (.func H) #[] y] w (Znx l q w):=by
 rcases hp with ⟨rfl,rfl⟩|⟨g,rfl,hD⟩
 ·have H0:=Y4 (show ∀w',Below w.heap.size w w'->Znx [] q w (.returned (.int .i64 0)) w' from fun w' hb=>⟨0,rfl,Zwx _,hb⟩);have HB:Y5 (Below w.heap.size w ((w.alloc (.cells #[.pointer none] 81)).alloc (.cells #[.func (.func H) #[] y] 50))):=Y4 (((Below.refl _ _).alloc (Xa _) _).alloc (by simp) _);clear hq;go_enter func175,ntmps175;go_wp2_with fail;go_ret;exact H0.z _ HB.z
 ·obtain ⟨R,hR⟩:=Xn w.heap.size;obtain ⟨I,d⟩:=Xn (w.alloc (.cells #[.pointer (some ⟨g,0,none⟩)] 81));obtain ⟨G,c⟩:=Xn (I.alloc (.cells #[.func (.func H) #[] y] 50));have M:Below w.heap.size w I:=by rw [<- d];exact (Below.refl _ _).alloc (Xa _) _
  have ab:I.heap.size=R+1:=by rw [<- d,<- hR];simp
  have A:Below I.heap.size I G:=by rw [<- c];exact (Below.refl _ _).alloc (Xa _) _
  have aD:G.heap.size=R+2:=by rw [<- c];simp [ab]
  have x2:G.cell? ⟨R,0,none⟩=some (.pointer (some ⟨g,0,none⟩)):=by rw [A.cell (p:=⟨R,0,none⟩) (by show R<_;omega),<- d,<- hR,cell_of_row _ _ 0 _ _ _ (heap_alloc_new w _)];rfl
  have x3:G.cell? ⟨R+1,0,none⟩=some (.func (.func H) #[] y):=by rw [<- c,<- ab,cell_of_row _ _ 0 _ _ _ (heap_alloc_new I _)];rfl
  have n:=M.trans (A.mono (by omega));have C:Zfm (fun _=>True) G g l:=hD.keep (Za _ n) fun _ _ h=>h;have F:=hq.below n;have af:∀args W,(callFunc 217 args).run prog W=.ok (.enter 217 args) W:=enters_of func217 (by kernel_rfl) rfl;have ae:∀args W,(callFunc 218 args).run prog W=.ok (.enter 218 args) W:=enters_of func218 (by kernel_rfl) rfl;have aN:Zr l<=16384:=by unfold Zr;omega
  have HS:=Y4 (Zm5 217 #[.pointer (some ⟨R+1,0,none⟩),.pointer (some ⟨R,0,none⟩)] (Zr l) (fun j => !q (tK l (16*j))) G af (by omega)
   (fun W j hj o=>ZCq H y q (R+1) R g l j W (F.below o) ((o.cell (p:=⟨R+1,0,none⟩) (by show R+1<_;omega)).trans x3) ((o.cell (p:=⟨R,0,none⟩) (by show R<_;omega)).trans x2) (C.keep (Za _ o) fun _ _ h=>h) hj hn))
  have ar:=Y4 F;have ai:=Y4 C;have ag:=Y4 n;have am:=Y4 d;have an:=Y4 c;obtain ⟨v,t2,_,t3⟩:=C;obtain ⟨pb,aK,rfl,ac,aJ,_⟩:=t3.shape;rw [Zdu] at t2 ac;have c1:=t2.c1;have V:=c1;rw [<- c,<- d] at V;have X2:=Y4 x2;have X3:=Y4 x3;clear d c M A hD hq F n t2 t3 x3;go_enter func175,ntmps175;go_wp2_with fail;rw [am.z,an.z];go_wp2_with fail;refine HS.z.mono ?_;rintro e w1 ⟨r,rfl,hT,b⟩;have aG:=b.size;have S:=Y4 (ag.z.trans (b.mono (by omega)))
  by_cases E:r=0
  ·subst E;have HT:=Y4 (Zty hT);clear hT b HS;go_wp2_with fail;go_ret;exact ⟨0,rfl,HT.z,S.z⟩
  ·have q1:((r:Int) == 0)=false:=Xb;have aO:r<=Zr l:=hT.1;have HT:=Y4 hT;obtain ⟨v1,t1,_,t3⟩:=ai.z.keep (T:=fun _=>True) (Za _ b) fun _ _ h=>h;obtain ⟨aA,aw,rfl,O,av,_⟩:=t3.shape;rw [Zdu] at t3 t1 O;obtain ⟨bb,off,vb,rfl,aF,b0,b1,a⟩:=Zo7 t3 (k:=r - 1) (by omega);have y2:w1.cell? ⟨R,0,none⟩=some (.pointer (some ⟨g,0,none⟩)):=(b.cell (p:=⟨R,0,none⟩) (by show R<_;omega)).trans X2.z;have d1:=t1.c1;obtain ⟨J,hJ⟩:=Xn (r - 1);rw [hJ] at b0 b1 a;have aM:(r:Int) - 1=(J:Int):=by omega
   have aI:(J:Int)<(Zr l:Int):=by omega
   obtain ⟨Z,hZ⟩:∃Z:Nat,(r - 1)*16=Z:=⟨_,rfl⟩;have au:(J:Int)*16=(Z:Int):=by omega
   have HZ:=Y4 hZ;have aH:Z<=262144:=by omega
   clear hZ;have al:=ZbO l J;obtain ⟨FT,X⟩:∃s:ByteArray,(⟨((Zw l J).headD Znq).1.toArray⟩:ByteArray)=s:=⟨_,rfl⟩;rw [X] at b0;have f:=Y4 (ZgS FT vb (Zw l J) w1 (Zi1 hw J) (by omega) a);obtain ⟨pv,cv,rfl,_⟩:=a.shape;have Y3:Y5 (w1.cell? ⟨R+1,0,none⟩=some (.func (.func H) #[] y)):=Y4 ((b.cell (p:=⟨R+1,0,none⟩) (by show R+1<_;omega)).trans X3.z);have aj:=Y4 (ar.z.below b);have HJ:=Y4 hJ;have aq:=Y4 E;clear hT b HS X t1 t3 a hJ E c1 V x2;go_wp2_with fail;refine f.z.mono ?_;rintro e z ⟨v2,rfl,D,m⟩;obtain ⟨p2,c2,rfl,aB,aC,_⟩:=D.any.shape;have ah:=m.size;obtain ⟨w3,i⟩:=Xn (z.alloc (.cells #[.slice p2 (Zw l J).length c2] 97));have u:Below z.heap.size z w3:=by rw [<- i];exact (Below.refl _ _).alloc (Xa _) _
   have z1:w3.cell? ⟨z.heap.size,0,none⟩=some (.slice p2 (Zw l J).length c2):=by rw [<- i,cell_of_row _ _ 0 _ _ _ (heap_alloc_new z _)];rfl
   have z2:w3.cell? ⟨R+1,0,none⟩=some (.func (.func H) #[] y):=(u.cell (p:=⟨R+1,0,none⟩) (by show R+1<_;omega)).trans ((m.cell (p:=⟨R+1,0,none⟩) (by show R+1<_;omega)).trans Y3.z);have t:Below w1.heap.size w1 w3:=m.trans (u.mono ah);have aE:=t.size;have L:=ZF.below D.any u
   have aa:=Y4 (Zm5 218 #[.pointer (some ⟨R+1,0,none⟩),.pointer (some ⟨z.heap.size,0,none⟩)] (Zw l J).length (fun k => !q (tK (Zw l J) k)) w3 ae (by omega)
    (fun W j hj o=>ZCr H y q (R+1) z.heap.size p2 _ c2 (Zw l J) j W ((aj.z.below t).below o) ((o.cell (p:=⟨R+1,0,none⟩) (by show R+1<_;omega)).trans z2) ((o.cell (p:=⟨z.heap.size,0,none⟩) (World.block_lt_of_cell? _ _ z1)).trans z1) (L.below o) hj (by omega)))
   have ap:=Y4 (S.z.trans (t.mono (by omega)));have ak:=Y4 i;have ao:Y5 ((Zw l J).length<=16):=Y4 (by omega);clear D m i u z2 t L f b0 b1 al;go_wp2_with fail;rw [ak.z];go_wp2_with fail;refine aa.z.mono ?_;rintro e w4 ⟨s,rfl,B,U⟩;have ad:=Y4 (ap.z.trans (U.mono (by omega)));have aL:=B.1;have ay:=ao.z;obtain ⟨Y,hY⟩:∃Y:Nat,Z+s=Y:=⟨_,rfl⟩;have az:(Z:Int)+(s:Int)=(Y:Int):=by omega
   have N:=Y4 (Zwy HT.z (Nat.pos_of_ne_zero aq.z) (by rw [HJ.z];exact B));rw [HZ.z,hY] at N;have ax:Y<=300000:=by omega
   clear B U aa hY;go_wp2_with fail;go_ret;exact ⟨Y,rfl,N.z,ad.z⟩
end DT
namespace DT
open RowKit MM DM
open EM (Zg Zbc Zaq ZaC)
variable {c:Nat} {t u:Xu}
theorem ZoG:∀{l:List ZN} {t:Xu},Za2 t l=true->∀{j:Nat},j<l.length->Zg t (tK l j)=true
 | [],_,_,j,h=>by simp at h
 | x::r,t,h,j,hj=>by
   rw [Za2,Xw] at h
   match j,hj with
   | 0,_=>simpa [tK] using h.1
   | j+1,hj =>
     have a:tK (x::r) (j+1)=tK r j:=by simp [tK]
     rw [a];exact Zaq h.1 (ZoG h.2 (by simpa using hj))
theorem Zjy:∀{l:List ZN} {t:Xu},Za2 t l=true->∀{i j:Nat},i<j->j<l.length->Zg (tK l i) (tK l j)=true
 | [],_,_,i,j,_,h=>by simp at h
 | x::r,t,h,i,j,hij,hj=>by
   rw [Za2,Xw] at h;obtain ⟨j,rfl⟩:∃k,j=k+1:=⟨j - 1,by omega⟩;have a:j<r.length:=by simpa using hj
   have d:tK (x::r) (j+1)=tK r j:=by simp [tK]
   rw [d]
   match i,hij with
   | i+1,hij =>
     have b:tK (x::r) (i+1)=tK r i:=by simp [tK]
     rw [b];exact Zjy h.2 (by omega) a
   | 0,_ =>
     have b:tK (x::r) 0=x.1:=by simp [tK]
     rw [b];exact ZoG h.2 a
theorem ZdA:∀(p:ZN->Bool) (l:List ZN) (a b:Nat),(∀k (h:k<l.length),k<a->p l[k]=false)->(∀k (h:k<l.length),a<=k->k<b->p l[k]=true)->(∀k (h:k<l.length),b<=k->p l[k]=false)->l.filter p=(l.take b).drop a
 | p,[],a,b,_,_,_=>by simp
 | p,x::r,0,0,h1,h2,h3=>by
   have ih:=ZdA p r 0 0 (fun k h d=>by omega) (fun k h _ d=>by omega) (fun k h d=>h3 (k+1) (XaH h) (by omega));have e:p x=false:=h3 0 (by simp) (by omega);simp only [List.filter_cons,e,ih];simp
 | p,x::r,0,b+1,h1,h2,h3=>by
   have ih:=ZdA p r 0 b (fun k h d=>by omega) (fun k h _ d=>h2 (k+1) (XaH h) (by omega) (by omega)) (fun k h d=>h3 (k+1) (XaH h) (by omega));have e:p x=true:=h2 0 (by simp) (by omega) (by omega);simp only [List.filter_cons,e,ih];simp
 | p,x::r,a+1,0,h1,h2,h3=>by
   have ih:=ZdA p r a 0 (fun k h d=>h1 (k+1) (XaH h) (by omega)) (fun k h _ d=>by omega) (fun k h d=>h3 (k+1) (XaH h) (by omega));have e:p x=false:=h3 0 (by simp) (by omega);simp only [List.filter_cons,e,ih];simp
 | p,x::r,a+1,b+1,h1,h2,h3=>by
   have ih:=ZdA p r a b (fun k h d=>h1 (k+1) (XaH h) (by omega)) (fun k h f d=>h2 (k+1) (XaH h) (by omega) (by omega)) (fun k h d=>h3 (k+1) (XaH h) (by omega));have e:p x=false:=h1 0 (by simp) (by omega);simp only [List.filter_cons,e,ih];simp
def ZCg (q:Xu->Bool):Prop:=∀s t,Zg s t=true->q t=true->q s=true
theorem Zkp {l:List ZN} {q:Xu->Bool} (d:Za2 t l=true) (g:ZCg q) (h:Zcr (fun k => !q (tK l k)) l.length c):(∀k,k<c->q (tK l k)=true)/\(∀k,c<=k->k<l.length->q (tK l k)=false):=by
 obtain ⟨h1,i,f⟩:=h;dsimp only at i f;refine ⟨fun k j => ?_,fun k j b => ?_⟩
 ·have a:q (tK l (c - 1))=true:=by simpa using i (by omega)
  by_cases e:k=c - 1
  ·rw [e];exact a
  ·exact g _ _ (Zjy d (show k<c - 1 by omega) (by omega)) a
 ·have a:q (tK l c)=false:=by simpa using f (by omega)
  by_cases e:k=c
  ·rw [e];exact a
  ·cases hq2:q (tK l k) with
   | false=>rfl
   | true =>
     have:=g _ _ (Zjy d (show c<k by omega) b) hq2;rw [a] at this;cases this
theorem ZnS (u:Xu):ZCg fun t=>Zg t u:=fun s t a b=>Zaq a b
theorem ZkI {l:List ZN} (d:Za2 t l=true) (h:Zcr (fun k => !Zg (tK l k) u) l.length c):ZcC l u=c:=by
 obtain ⟨e,f⟩:=Zkp d (ZnS u) h;have hc:=h.1;unfold ZcC;rw [ZdA (fun x=>Zg x.1 u) l 0 c (fun k _ b=>by omega) (fun k b _ a=>by rw [<- Zht b];exact e k a) (fun k b a=>by rw [<- Zht b];exact f k a b),Xap,Xi];omega
def Ziy (p t:Xu):Bool:=decide (p.length<=t.length)&&decide (t.take p.length=p)
theorem Zj5 (a b:UInt8) (p t:Xu):Ziy (a::p) (b::t)=(decide (b=a)&&Ziy p t):=by
 unfold Ziy
 by_cases h:b=a<;>by_cases d:p.length<=t.length<;>simp [h,d]
theorem Zmx:∀{p t:Xu},Ziy p t=true->Zg t p=false
 | [],t,_=>by cases t<;>rfl
 | a::p,[],h=>by simp [Ziy] at h
 | a::p,b::t,h=>by
   rw [Zj5,Xw,Xg] at h;obtain ⟨rfl,h⟩:=h;rw [Zg];simp [Zmx h]
theorem Zkv:∀{p s t:Xu},Zg s t=true->Ziy p t=true->Zg s p=false->Ziy p s=true
 | [],s,t,_,_,_=>by simp [Ziy]
 | a::p,s,[],_,h,_=>by simp [Ziy] at h
 | a::p,[],b::t,_,_,h=>by simp [Zg] at h
 | a::p,c::s,b::t,h1,d,h3=>by
   rw [Zj5,Xw,Xg] at d;obtain ⟨rfl,d⟩:=d;rw [Zg] at h1 h3;rw [Zj5]
   by_cases e:c=b
   ·subst e;simp at h1 h3;simp [Zkv h1 d h3]
   ·simp [e] at h1 h3;omega
def Zd5 (p t:Xu):Bool:=Zg t p||Ziy p t
theorem Zu3 (p:Xu):ZCg (Zd5 p):=fun s t b a=>by
 unfold Zd5 at a ⊢;cases h:Zg s p with
 | true=>rfl
 | false =>
   rw [Bool.or_eq_true] at a;rcases a with a|a
   ·rw [Zaq b a] at h;cases h
   ·rw [Zkv b a h];rfl
theorem Zs3 {l:List ZN} {p:Xu} {a b:Nat} (j:Za2 t l=true) (r:Zcr (fun k => !Zg (tK l k) p) l.length a) (s:Zcr (fun k => !Zd5 p (tK l k)) l.length b):Zh9 l p=(l.take b).drop a:=by
 obtain ⟨f1,q⟩:=Zkp j (ZnS p) r;obtain ⟨n,m⟩:=Zkp j (Zu3 p) s;have i:∀x:ZN,Zyc p x=Ziy p x.1:=fun _=>rfl;unfold Zh9;refine ZdA _ l a b (fun k d e => ?_) (fun k d e g => ?_) (fun k d g => ?_)
 ·rw [i,<- Zht d];have:=f1 k e;cases h:Ziy p (tK l k) with
  | false=>rfl
  | true=>rw [Zmx h] at this;cases this
 ·rw [i,<- Zht d];have o:=q k e d;have f:=n k g;unfold Zd5 at f;rw [o] at f;exact f
 ·rw [i,<- Zht d];have f:=m k g d;unfold Zd5 at f;rw [Bool.or_eq_false_iff] at f;exact f.2
theorem ZsB {l:List ZN} (g:Za2 t l=true):ZfH l u=match atD l (ZcC l u:Int) with
  | none=>none
  | some x=>if x.1=u then some x else none:=by
 have m:=Zn8 l u
 have f:∀k:Nat,atD l (k:Int)=l[k]? := fun k=>by
  unfold atD
  by_cases h:k<l.length
  ·rw [Xe ⟨by omega,by omega⟩,XY]
  ·rw [Xc (by omega),List.getElem?_eq_none (by omega)]
 rw [f]
 have d:∀k (a:k<l.length),l[k].1=u->ZcC l u=k:=fun k a b=>by
  refine ZkI g ⟨by omega,fun h0 => ?_,fun _ => ?_⟩
  ·have:=Zjy g (show k - 1<k by omega) a;rw [Zht a,b] at this;dsimp only;rw [this];rfl
  ·dsimp only;rw [Zht a,b,Zbc];rfl
 cases hf:ZfH l u with
 | some x =>
   have i:=List.find?_some hf;have j:=List.mem_of_find?_eq_some hf;obtain ⟨k,a,rfl⟩:=Xbc j;have b:l[k].1=u:=by simpa using i
   rw [d k a b,XZ a];simp [b]
 | none =>
   cases hg:l[ZcC l u]? with
   | none=>rfl
   | some x =>
     obtain ⟨a,rfl⟩:=Xak.1 hg;have:=List.find?_eq_none.1 hf l[ZcC l u] (XI a);have e:l[ZcC l u].1≠u:=by simpa using this
     simp [e]
end DT
namespace DT
open RowKit MM DM
open EM (Zg Zan)
theorem Zg7 {l:List ZN} (h:ZbC l=true):(∀x∈l,okW x)/\Za2 [] l=true/\l.length<=262144:=by
 unfold ZbC at h;rw [Xw,Xg,ZhF] at h;exact ⟨h.2.1,h.2.2,h.1⟩
theorem ZCz (a:Nat) (t u:Xu) (w:World) (h:w.cell? ⟨a,0,none⟩=some (.string ⟨u.toArray⟩)):Calls prog 212 (#[.string ⟨t.toArray⟩]++#[.pointer (some ⟨a,0,none⟩)]) w fun e w'=>e=.returned (.bool (Zg t u))/\Below w.heap.size w w':=by
 have c:=Zan t u;generalize Zg t u=b at *;go_enter func212,ntmps212;go_wp2_with fail;go_ret;exact ⟨rfl,Below.refl _ _⟩
theorem Zmk (t u:Xu):Lib.hasPrefix t u=Ziy u t:=by
 unfold Lib.hasPrefix Ziy;rw [Xa3,List.isPrefixOf_iff_prefix,Xw,Xg,Xg];constructor
 ·intro h;exact ⟨h.length_le,(List.prefix_iff_eq_take.1 h).symm⟩
 ·rintro ⟨_,h⟩;exact List.prefix_iff_eq_take.2 h.symm
theorem ZCI (d:Nat) (t u:Xu) (w:World) (h:w.cell? ⟨d,0,none⟩=some (.string ⟨u.toArray⟩)):Calls prog 176 (#[.string ⟨t.toArray⟩]++#[.pointer (some ⟨d,0,none⟩)]) w fun e w'=>e=.returned (.bool (Zd5 u t))/\Below w.heap.size w w':=by
 have a:=Zan t u;have c:=Tryz.strings_HasPrefix ⟨t.toArray⟩ ⟨u.toArray⟩ w;rw [ZcO,ZcO,Zmk] at c;have f:=Y4 c;clear c;unfold Zd5;cases hb:Zg t u with
 | true =>
   rw [hb] at a;clear hb;go_enter func176,ntmps176;go_wp2_with fail;go_ret;exact ⟨rfl,Below.refl _ _⟩
 | false =>
   rw [hb] at a;rw [Bool.false_or];generalize Ziy u t=b at *;clear hb;go_enter func176,ntmps176;go_wp2_with fail;refine f.z.mono ?_;rintro e w1 ⟨rfl,rfl⟩;go_wp2_with fail;go_ret;exact ⟨rfl,Below.refl _ _⟩
theorem ZxX (R:Nat) (u:Xu) (w:World) (h:w.cell? ⟨R,0,none⟩=some (.string ⟨u.toArray⟩)):Zks 212 #[.pointer (some ⟨R,0,none⟩)] (fun t=>Zg t u) w :=
 ⟨enters_of func212 (by kernel_rfl) rfl,fun W t a=>ZCz R t u W ((a.cell (p:=⟨R,0,none⟩) (World.block_lt_of_cell? _ _ h)).trans h)⟩
theorem Zy3 (R:Nat) (u:Xu) (w:World) (h:w.cell? ⟨R,0,none⟩=some (.string ⟨u.toArray⟩)):Zks 176 #[.pointer (some ⟨R,0,none⟩)] (Zd5 u) w :=
 ⟨enters_of func176 (by kernel_rfl) rfl,fun W t a=>ZCI R t u W ((a.cell (p:=⟨R,0,none⟩) (World.block_lt_of_cell? _ _ h)).trans h)⟩
theorem Zn9 (p:Option Addr) (l:List ZN) (u:Xu) (w:World) (n:ZcE (fun _=>True) w p l) (s:ZbC l=true):Calls prog 166 #[.pointer p,.string ⟨u.toArray⟩] w fun e w'=>e=.returned (.int .i64 (ZcC l u:Int))/\Zcr (fun k => !Zg (tK l k) u) l.length (ZcC l u)/\Below w.heap.size w w':=by
 obtain ⟨o,r,x⟩:=Zg7 s;obtain ⟨R,v⟩:=Xn w.heap.size;obtain ⟨g,a⟩:=Xn (w.alloc (.cells #[.string ⟨u.toArray⟩] 9));have b:Below w.heap.size w g:=by rw [<- a];exact (Below.refl _ _).alloc (Xa _) _
 have j:g.cell? ⟨R,0,none⟩=some (.string ⟨u.toArray⟩):=by rw [<- a,<- v,cell_of_row _ _ 0 _ _ _ (heap_alloc_new w _)];rfl
 have m:=Y4 (ZhI p l 212 _ _ g (n.below b) (ZxX R u g j) o x);have f:=Y4 b;have h:=Y4 a;clear b a j n;go_enter func166,ntmps166;go_wp2_with fail;rw [h.z];go_wp2_with fail;refine m.z.mono ?_;rintro e w1 ⟨c,rfl,i,d⟩;have t:=ZkI r i;subst t;have y:=Y4 i;have q:=Y4 (f.z.trans (d.mono f.z.size));clear i d m;go_wp2_with fail;go_ret;exact ⟨rfl,y.z,q.z⟩
def Zy4 (u:Xu):Option ZN->Option ZN
 | none=>none
 | some x=>if x.1=u then some x else none
theorem ZAT (p:Option Addr) (l:List ZN) (u:Xu) (w:World) (hp:ZcE (fun _=>True) w p l) (hl:ZbC l=true):Calls prog 111 #[.pointer p,.string ⟨u.toArray⟩] w (Found (ZfH l u) w):=by
 obtain ⟨hw,hr,hn⟩:=Zg7 hl;have f:ZfH l u=Zy4 u (atD l (ZcC l u:Int)):=by rw [ZsB hr];cases atD l (ZcC l u:Int)<;>rfl
 have L:=Zn8 l u;obtain ⟨R,hR⟩:=Xn w.heap.size;obtain ⟨I,r⟩:=Xn (w.alloc (.cells #[.string ⟨#[]⟩,.int .i64 0,.int .i64 0,.int .i64 0] 102));have G:Below w.heap.size w I:=by rw [<- r];exact (Below.refl _ _).alloc (Xa _) _
 have M:Y5 (Za3 I R 102 (.string ⟨#[]⟩) (.int .i64 0) (.int .i64 0) (.int .i64 0)):=Y4 (by rw [<- r,<- hR];exact ZeP w 102 _ _ _ _);have ac:I.heap.size=R+1:=by rw [<- r,<- hR];simp
 have V:=hp.below G;have Y:=Y4 (Zn9 p l u I V hl);have A:=Y4 (fun W (hW:Below I.heap.size I W)=>Zr8 p l (ZcC l u:Int) W (V.below hW) hw hn (by omega) (by omega));have Z:=Y4 G;have T:=Y4 r;obtain ⟨o,S⟩:=Xn (atD l (ZcC l u:Int));obtain ⟨c,hc⟩:=Xn (ZcC l u);rw [hc] at S f Y A;rw [S] at f A;obtain ⟨F,E⟩:=Xn (ZfH l u);rw [E] at f ⊢;have d:=Y4 f;clear r G hp V f S hc L E;go_enter func111,ntmps111;go_wp2_with fail;rw [T.z];refine Y.z.mono ?_;rintro e w1 ⟨rfl,_,y⟩;have ab:=y.size;have N:=Y4 (A.z w1 y);have s:=Y4 (M.z.below y (by omega));have t:=Y4 (Z.z.trans (y.mono (by omega)));clear y A Y M;go_wp2_with fail;refine N.z.mono ?_;rintro e x ⟨rfl,i⟩;have aa:=i.size;obtain ⟨q,hq⟩:=Xn x.heap.size;cases o with
 | none =>
   obtain rfl:F=none:=d.z;dsimp only [Option.getD_none,Option.isSome_none];clear d;have k:=s.z.below i (by omega);have j:Below x.heap.size x (x.alloc (.cells #[.string ⟨#[]⟩,.int .i64 0,.int .i64 0,.int .i64 0] 102)):=(Below.refl _ _).alloc (Xa _) _;have a:=k.below j (by omega);obtain ⟨m1,m2,m3,m4,⟨k1,k2⟩,⟨k3,k4⟩,k5,k6⟩:=a.all (.string ⟨#[]⟩) (.int .i64 0) (.int .i64 0);obtain ⟨n0,n1,n2,n3⟩:=a.cells;have O:=Y4 a;have n:=Y4 (a.set (.string ⟨#[]⟩) (.int .i64 0) (.int .i64 0) (.int .i64 0));have h:=(t.z.trans (i.mono (by omega))).trans (j.mono (by omega));have U:=Y4 h;have v:=Y4 (h.trans ((ZfQ (g:=R) (w:=x.alloc (.cells #[.string ⟨#[]⟩,.int .i64 0,.int .i64 0,.int .i64 0] 102)) (.string ⟨#[]⟩) (.int .i64 0) (.int .i64 0) (.int .i64 0)).below (B:=w.heap.size) (by simp;omega) (fun b hb=>by omega)));unfold Zl3 Znq;clear k j a h i N s t;go_wp2_with fail;refine bodyPost_ret (Zb4 (p:=4) (u:=5) rfl underlying102 rfl Zgc _ _ R _ _ _ _ rfl n.z) rfl ?_;exact ⟨rfl,v.z⟩
 | some X =>
   obtain ⟨m,C,D,H⟩:=X;dsimp only [Option.getD_some,Option.isSome_some];unfold Zl3;dsimp only;have k:=s.z.below i (by omega);have j:Below x.heap.size x (x.alloc (.cells #[.string ⟨m.toArray⟩,.int .i64 C,.int .i64 D,.int .i64 H] 102)):=(Below.refl _ _).alloc (Xa _) _;have a:=k.below j (by omega);have z:=ZeP x 102 (.string ⟨m.toArray⟩) (.int .i64 C) (.int .i64 D) (.int .i64 H);rw [hq] at z;obtain ⟨n0,n1,n2,n3⟩:=a.cells;obtain ⟨e0,e1,e2,e3⟩:=z.cells;have h:=(t.z.trans (i.mono (by omega))).trans (j.mono (by omega));have U:=Y4 h;have O:=Y4 a
   by_cases J:m=u
   ·have t0:(m == u)=true:=by rw [J];simp
    obtain ⟨m1,m2,m3,m4,⟨k1,k2⟩,⟨k3,k4⟩,k5,k6⟩:=a.all (.string ⟨m.toArray⟩) (.int .i64 C) (.int .i64 D);have n:=Y4 (a.set (.string ⟨m.toArray⟩) (.int .i64 C) (.int .i64 D) (.int .i64 H));have v:=Y4 (h.trans ((ZfQ (g:=R) (w:=x.alloc (.cells #[.string ⟨m.toArray⟩,.int .i64 C,.int .i64 D,.int .i64 H] 102)) (.string ⟨m.toArray⟩) (.int .i64 C) (.int .i64 D) (.int .i64 H)).below (B:=w.heap.size) (by simp;omega) (fun b hb=>by omega)));subst J;have t0:(m == m)=true:=by simp
    obtain rfl:F=some (m,C,D,H):=by have:=d.z;unfold Zy4 at this;dsimp only at this;rw [Xe rfl] at this;exact this
    clear k j a z h i N s t d;go_wp2_with fail;refine bodyPost_ret (Zb4 (p:=4) (u:=5) rfl underlying102 rfl Zgc _ _ R _ _ _ _ rfl n.z) rfl ?_;exact ⟨rfl,v.z⟩
   ·have t0:(m == u)=false:=by rw [X6];exact J
    obtain ⟨m1,m2,m3,m4,⟨k1,k2⟩,⟨k3,k4⟩,k5,k6⟩:=a.all (.string ⟨#[]⟩) (.int .i64 0) (.int .i64 0);have n:=Y4 (a.set (.string ⟨#[]⟩) (.int .i64 0) (.int .i64 0) (.int .i64 0));have v:=Y4 (h.trans ((ZfQ (g:=R) (w:=x.alloc (.cells #[.string ⟨m.toArray⟩,.int .i64 C,.int .i64 D,.int .i64 H] 102)) (.string ⟨#[]⟩) (.int .i64 0) (.int .i64 0) (.int .i64 0)).below (B:=w.heap.size) (by simp;omega) (fun b hb=>by omega)));obtain rfl:F=none:=by have:=d.z;unfold Zy4 at this;dsimp only at this;rw [Xc J] at this;exact this
    clear k j a z h i N s t d J;go_wp2_with fail;refine bodyPost_ret (Zb4 (p:=4) (u:=5) rfl underlying102 rfl Zgc _ _ R _ _ _ _ rfl n.z) rfl ?_;exact ⟨rfl,v.z⟩
variable {i m:Nat}
theorem Zxt {l:List ZN} {a:Nat} (ha:a<=i) (hi:i<=l.length):(l.take (i+m)).drop a=(l.take i).drop a++(l.drop i).take m:=by
 rw [List.take_add,List.drop_append_of_le_length (by rw [Xi];omega)]
theorem ZuS {l:List ZN} {J M:Nat} (h:i=16*J+M) (a:m<=16 - M):((Zw l J).drop M).take m=(l.drop i).take m:=by
 subst h;unfold Zw;rw [List.drop_take,XaI,List.take_take,Xan a]
theorem ZBU {S T:Nat->Prop} {w:World} {v:Value} {d:List ZN} (h:Zds Zbr S w v d):Zds Zbr T w v d:=by
 obtain ⟨p,a,c,k,j,g,e,f⟩:=h;exact ⟨p,a,c,k,j,g,⟨e.1,fun i hi b=>Zf7.2 (Zf7.1 (e.2 i hi b))⟩,f⟩
theorem Zp1 (p:Option Addr) (l:List ZN) (a b:Nat) (w:World) (hp:ZcE (fun _=>True) w p l) (hl:ZbC l=true) (hb:b<=l.length) (ha:a<=l.length):Calls prog 174 #[.pointer p,.int .i64 (a:Int),.int .i64 (b:Int)] w (Zlr ((l.take b).drop a) w):=by
 obtain ⟨hw,hr,hn⟩:=Zg7 hl;have HP:=Y4 hp
 have T:Y5 (ZC Zbr 102 w.heap.size (fun _=>False) w (.slice none 0 0) ((l.take a).drop a)):=Y4 (by
  rw [Xao (by rw [Xi];omega)];exact ZC.nil_ _ _ _ _)
 clear hp hr hl;go_enter func174,ntmps174;go_wp2_with fail
 go_loopw [1,7] (fun iv lv wr=>∃i:Nat,iv=.int .i64 (i:Int)/\a<=i/\i<=l.length/\(i<=b\/i=a)/\Y5 (ZC Zbr 102 w.heap.size (fun _=>False) wr lv ((l.take i).drop a))/\Y5 (Below w.heap.size w wr)) (fun iv _ _=>b - (intOf iv).toNat)
 case atStart=>exact ⟨a,rfl,Xa _,ha,.inr rfl,T,Y4 (Below.refl _ _)⟩
 case round =>
  obtain ⟨i,rfl,ac,ab,aj,y,A⟩:=hrel;clear T
  by_cases af:i<b
  ·have q1:decide ((i:Int)<(b:Int))=true:=Xt;have q2:decide (i<b)=true:=Xt;rcases HP.z.below A.z with ⟨_,h0⟩|⟨g,hg,v,h2,_,W⟩
   ·rw [h0] at hb;simp at hb;omega
   subst hg;have hj:i / 16<Zr l:=by unfold Zr;omega
   obtain ⟨pb,cb,rfl,Y,ax,_⟩:=W.shape;rw [Zdu] at W h2 Y;obtain ⟨bb,off,vb,rfl,ap,b0,b1,c⟩:=Zo7 W hj;obtain ⟨J,hJ⟩:=Xn (i / 16);obtain ⟨M,hM⟩:=Xn (i%16);have d1:(i:Int) / 16=(J:Int):=by omega
   have d2:(i:Int).tdiv 16=(J:Int):=by rw [Int.tdiv_eq_ediv_of_nonneg (by omega)];omega
   have d3:(i:Int)%16=(M:Int):=by omega
   have d4:(i:Int).tmod 16=(M:Int):=by rw [Int.tmod_eq_emod_of_nonneg (by omega)];omega
   rw [hJ] at b0 b1 c hj;have H:(Zw l J).length=min 16 (l.length - 16*J):=ZbO l J;obtain ⟨FT,R⟩:∃s:ByteArray,(⟨((Zw l J).headD Znq).1.toArray⟩:ByteArray)=s:=⟨_,rfl⟩;rw [R] at b0;have d:=Y4 (ZgS FT vb (Zw l J) wr (Zi1 hw J) (by omega) c);obtain ⟨pv,cv,rfl,_⟩:=c.shape;have c1:=h2.c1;have aA:(J:Int)<(Zr l:Int):=by omega
   have ay:Zr l<=16384:=by unfold Zr;omega
   generalize Zr l=N at *;obtain ⟨x,q⟩:=Xn ((Zw l J).length);rw [q] at H;obtain ⟨m,hm⟩:=Xn (min (x - M) (b - i));have ak:(b:Int) - (i:Int)=((b - i:Nat):Int):=by omega
   have aa:IntKind.i64.wrap ((b:Int) - (i:Int))=(b:Int) - (i:Int):=by rw [IntKind.wrap_i64];omega
   have Z:min ((x - M:Nat):Int) ((b:Int) - (i:Int))=(m:Int):=by omega
   have ad:min ((x - M:Nat):Int) ((b - i:Nat):Int)=(m:Int):=by omega
   have av:0<m:=by omega
   have O:Y5 ((l.take (i+m)).drop a=(l.take i).drop a++((Zw l J).drop M).take m):=Y4 (by rw [Zxt ac ab,ZuS (i:=i) (by omega) (by omega)]);have aq:(M:Int)<=(x:Int):=by omega
   have f:Y5 (((l.take i).drop a).length+(((Zw l J).drop M).take m).length<=262144):=Y4 (by rw [Xp,Xi,Xi,Xp];omega);have t:Y5 (M<x/\m<=x - M/\M+m<=16/\i+m<=b):=Y4 (by omega);have n:=Y4 q;obtain ⟨AC,z⟩:=Xn ((l.take i).drop a);rw [z] at y O f;obtain ⟨pl,cl,rfl,_⟩:=y.z.any.shape;have U:Y5 (w.heap.size<=wr.heap.size):=Y4 A.z.size;clear h2 W c R H hJ hM q hm z;go_wp2_with fail;refine d.z.mono ?_;rintro e w2 ⟨v2,rfl,u,j⟩;obtain ⟨p2,c2,rfl,X,ao,ah⟩:=u.any.shape;rw [n.z] at X ⊢;have an:(M:Int)<=(c2:Int):=by omega
   have o:=u.any;rw [n.z] at o;obtain ⟨b2,al,rfl,am,_⟩:=ZcU o (k:=M) (by rw [n.z];exact t.z.1);have r:=((ZB.drop o M (by omega)).take m t.z.2.1);rw [Xc (by omega),Xae,ZZ,Zl4] at r;have G:Y5 (Zds Zbr (fun _=>False) w2 _ _):=Y4 (ZBU r.src);have E:(((Zw l J).drop M).take m).length=m:=by rw [Xi,Xp,n.z];omega
   have aw:=Y4 E;have ar:=j.size;have S:=Y4 (y.z.keep (Za (fun _=>True) j) (fun _ _ h=>h.elim) (fun _ _=>trivial));have L:=Y4 (A.z.trans (j.mono U.z));have au:c2≠M:=by omega
   have az:(m:Int)<=((c2 - M:Nat):Int):=by omega
   have V:Y5 (w.heap.size<=w2.heap.size):=Y4 (by have:=U.z;omega);clear u j o r E y A d ah;go_wp2_with (at_builtin;go_loud (refine Zo Zsv rfl _ _ rfl w.heap.size (.slice pl AC.length cl) AC rfl S.z (fun _ _ h=>h.elim) _ (((Zw l J).drop M).take m) rfl G.z (by unfold maxLen;have:=f.z;omega) (by have:=f.z;omega) V.z ?_;intro v3 w3 D I ae;have C:=Y4 D;have ai:=Y4 (L.z.trans I);clear D I ae S L G))
   rw [<- O.z] at C;obtain ⟨F,B⟩:i+m<=b/\i+m<=l.length:=by have:=t.z;omega
   go_roundw
   case rel=>exact ⟨i+m,by go_num,by omega,B,.inl F,C,ai⟩
   case measure=>simp [intOf];omega
  ·have q1:decide ((i:Int)<(b:Int))=false:=Xf;have q2:decide (i<b)=false:=Xf
   have he:(l.take b).drop a=(l.take i).drop a:=by
    rcases aj with h|h
    ·rw [show i=b by omega]
    ·subst h;rw [Xao (by rw [Xi];omega),Xao (by rw [Xi];omega)]
   have ho:=y.z;rw [<- he] at ho;have ag:=Y4 ho;clear he af ho y;go_wp2_with fail;go_ret;exact ⟨_,rfl,ag.z,A.z⟩
end DT
namespace DT
open RowKit MM DM
open EM (Zg Zan)
theorem Zs4 (p:Option Addr) (l:List ZN) (u:Xu) (w:World) (O:ZcE (fun _=>True) w p l) (G:ZbC l=true):Calls prog 115 #[.pointer p,.string ⟨u.toArray⟩] w (Zlr (Zh9 l u) w):=by
 obtain ⟨U,X,hn⟩:=Zg7 G;obtain ⟨R,M⟩:=Xn w.heap.size;obtain ⟨j,f⟩:=Xn (w.alloc (.cells #[.string ⟨u.toArray⟩] 9));have o:Below w.heap.size w j:=by rw [<- f];exact (Below.refl _ _).alloc (Xa _) _
 have J:j.cell? ⟨R,0,none⟩=some (.string ⟨u.toArray⟩):=by rw [<- f,<- M,cell_of_row _ _ 0 _ _ _ (heap_alloc_new w _)];rfl
 have Y:j.heap.size=R+1:=by rw [<- f,<- M];simp
 have i:=O.below o;have H:=Y4 (Zn9 p l u j i G);have N:=Y4 (fun W (E:Below j.heap.size j W)=>ZhI p l 176 _ _ W (i.below E) ((Zy3 R u j J).below E) U hn);have C:=Y4 (fun a b W (E:Below j.heap.size j W) (T:b<=l.length) (ha:a<=l.length)=>Zp1 p l a b W (i.below E) G T ha);have D:=Y4 o;have F:=Y4 f;obtain ⟨V,h⟩:=Xn (Zh9 l u);obtain ⟨c,L⟩:=Xn (ZcC l u);rw [h];rw [L] at H;have t:=Y4 h;clear o f J O i L h;go_enter func115,ntmps115;go_wp2_with fail;rw [F.z];refine H.z.mono ?_;rintro e w1 ⟨rfl,y,q⟩;have z:=Y4 (N.z w1 q);have v:=Y4 y;have n:=Y4 q;clear y q N H;go_wp2_with fail;refine z.z.mono ?_;rintro e Z ⟨d,rfl,m,s⟩;have g:=n.z.trans (s.mono n.z.size);have k:=Y4 (C.z c d Z g m.1 v.z.1);have B:=Y4 g;have HP:=Y4 (Zs3 X v.z m);clear m s g C z n;go_wp2_with fail;refine k.z.mono ?_;rintro e w3 ⟨v3,rfl,A,x⟩;have S:=B.z.size;have r:=Y4 (Zez A (B':=w.heap.size) (by omega));have I:=Y4 ((D.z.trans (B.z.mono D.z.size)).trans (x.mono (by omega)));rw [<- HP.z,t.z] at r;clear A x k;go_wp2_with fail;go_ret;exact ⟨_,rfl,r.z,I.z⟩
end DT
namespace SG
open RowKit MM
open EM (Tr)
open DM (ZN ZbC ZfD)
open DT (ZcE Zh9 Zbr ZcU)
open PM (Zk)
open GM (ZS ZaD ZkG)
theorem ZuG (o:Option Addr) (F H:Value) (ac:F.oneCell'=true) (ae:H.oneCell'=true) (rows:List (Tr Zk)) (u:Xu) (w:World) (hd:ZcE (fun _=>True) w o (ZS 0 rows)) (U:ZbC (ZS 0 rows)=true) :
  Calls prog 64 #[.agg #[.pointer o,F,H],.string ⟨u.toArray⟩] w fun e w'=>(∃v,e=.returned v/\ZcF w' v (ZaD rows u))/\Below w.heap.size w w':=by
 obtain ⟨q,hq⟩:=Xn w.heap.size;obtain ⟨wa,d⟩:=Xn (w.alloc (.cells #[.pointer o,F,H] 84));have l:Below w.heap.size w wa:=by rw [<- d];exact (Below.refl _ _).alloc (Xa _) _
 have T0:Y5 (Three wa q 84 (.pointer o) F H):=Y4 (by rw [<- d,<- hq];exact Zaj w 84 _ _ _);obtain ⟨x0,x1,x2⟩:=T0.z.cells;have Y:=Y4 (DT.Zs4 o (ZS 0 rows) u wa (hd.below l) U);have c:=ZkG rows u 0;have S:(Zh9 (ZS 0 rows) u).length<=262144:=Xy (Xbs _ _) (ZfD U).1;obtain ⟨L,hL⟩:=Xn (Zh9 (ZS 0 rows) u);rw [hL] at Y c S;obtain ⟨M,E⟩:∃M:List Xu,L.map (·.1)=M:=⟨_,rfl⟩;have B:M.length=L.length:=by rw [<- E,XF]
 have O:=Y4 (fun (k:Nat) (hk:k<L.length)=>(show M.take (k+1)=M.take k++[L[k].1] by subst E;rw [XG (by simpa using hk),Xax]));have A:=Y4 B;rw [E] at c;clear E B;have t:=Y4 c;have D:=Y4 l;have y:=Y4 d;clear hd l d hL U c;go_enter func64,ntmps64;go_wp2_with fail;rw [y.z];go_wp2_with fail;refine Y.z.mono ?_;rintro e j ⟨v2,rfl,h,p⟩;obtain ⟨pe,ce,rfl,ad,X,_⟩:=h.any.shape;unfold maxLen at X;have HE:=Y4 h.any.bel;have m:=Y4 (D.z.trans (p.mono D.z.size));have H0:Y5 (ZbL j.heap.size j (.slice none 0 0) (M.take 0)):=Y4 (ZbL.nil_ _ _);clear h p Y x0 x1 x2 T0 y;go_wp2_with fail
 go_loopw [5,13] (fun sv N wr=>∃k:Nat,k<=L.length/\N=.int .i64 k/\Y5 (ZbL j.heap.size wr sv (M.take k))/\Y5 (Below j.heap.size j wr)) (fun _ N _=>L.length - (intOf N).toNat)
 case atStart=>exact ⟨0,by omega,rfl,H0,Y4 (Below.refl _ _)⟩
 case round =>
  obtain ⟨k,hk,rfl,G,r⟩:=hrel;clear H0
  by_cases i:k<L.length
  ·have t1:decide ((k:Int)<(L.length:Int))=true:=by simp;omega
   have t2:decide (k<L.length)=true:=Xs i;have t3:(k:Int)<(L.length:Int):=by omega
   obtain ⟨b,off,rfl,af,_,c0,c1,c2,c3⟩:=ZcU (HE.z.below r.z) i;have f:=O.z k i;have I:(M.take k).length=k:=by rw [Xi,A.z];omega
   obtain ⟨⟨s,z0,V,T⟩,hx⟩:∃x,L[k]=x:=⟨_,rfl⟩;rw [hx] at c0 c1 c2 c3 f;dsimp only at c0 c1 c2 c3 f;have g:=G.z;obtain ⟨pu,cu,hv,_⟩:=ZbL.shape g;rw [I] at hv;subst hv;have n:Below wr.heap.size wr (wr.alloc (.cells #[.string ⟨s.toArray⟩,.int .i64 z0,.int .i64 V,.int .i64 T] 102)):=(Below.refl _ _).alloc (Xa _) _;have J:=Y4 (g.keep n);have z:=Y4 (r.z.trans (n.mono r.z.size));have ab:Y5 (j.heap.size<=(wr.alloc (.cells #[.string ⟨s.toArray⟩,.int .i64 z0,.int .i64 V,.int .i64 T] 102)).heap.size):=Y4 z.z.size;have HN:=Y4 f;clear hx n G f g;go_wp2_with (at_builtin;go_loud (refine Zb8 rfl _ _ rfl j.heap.size _ (M.take k) (wr.alloc (.cells #[.string ⟨s.toArray⟩,.int .i64 z0,.int .i64 V,.int .i64 T] 102)) s rfl rfl J.z (by rw [World.size_alloc];rfl) (by omega) ab.z ?_))
   intro v4 w4 a C;rw [<- HN.z] at a;have aa:=Y4 a;have W:=Y4 (z.z.trans C);clear a C;go_wp2_with fail;go_roundw
   case rel=>exact ⟨k+1,by omega,by go_num,aa,W⟩
   case measure=>simp [intOf];omega
  ·obtain rfl:k=L.length:=by omega
   have t1:decide ((L.length:Int)<(L.length:Int))=false:=by simp
   have g:=G.z;rw [<- A.z,XB,t.z] at g;have R:=Y4 (ZbL.trow g);have Z:=Y4 (m.z.trans (r.z.mono m.z.size));clear G g m r;go_wp2_with fail;go_ret;exact ⟨⟨_,rfl,R.z⟩,Z.z⟩
end SG
namespace RM
open TK (Z4 Zag)
open EM (Fld Ev Tr Trm ZH ZaK Z1 Zb6 Zak Zz ZaT ZM Zac Zg ZiY Zep)
open PM (Zk)
variable {n:Nat}
theorem ZpW {α:Type} {l:List (Tr α)} {s:Xu} {k:Nat} (p:α) (a:k<l.length) (h:∀j (hj:j<l.length),j<k->Zg l[j].1 s=true) (hs:l[k].1=s):Zak l s p=l.set k (l[k].1,l[k].2++[p]):=by
 rw [ZiY p a h hs,List.set_eq_take_append_cons_drop,Xe a,hs]
def ZiR {α:Type} (n:Nat) (l:List (Tr α)):Prop:=l.length<=n/\∀r∈l,r.2.length<=n
theorem ZiR.mono {α:Type} {m:Nat} {l:List (Tr α)} (h:ZiR n l) (a:n<=m):ZiR m l:=⟨Xy h.1 a,fun r b=>Xy (h.2 r b) a⟩
theorem Zt0 {α:Type}:∀{l:List (Tr α)} {s:Xu} {p:α} {m:Nat},(∀t∈l,t.2.length<=m)->∀t∈Zak l s p,t.2.length<=m+1
 | [],s,p,m,_=>by
   intro t a;simp only [Zak,XaJ] at a;subst a;simp
 | u::r,s,p,m,h=>by
   intro t a;have c:=h u (by simp);have b:∀v∈r,v.2.length<=m:=fun v d=>h v (by simp [d]);rw [Zak] at a
   split at a
   ·rcases XT.1 a with rfl|a
    ·omega
    ·exact Zt0 b t a
   ·split at a
    ·rcases XT.1 a with rfl|a
     ·rw [Xd];simp;exact c
     ·have:=b t a;omega
    ·rcases XT.1 a with rfl|a
     ·simp
     ·have:=h t a;omega
theorem ZlA {α:Type}:∀(l:List (Tr α)) (s:Xu) (p:α),(Zak l s p).length<=l.length+1
 | [],s,p=>by simp [Zak]
 | t::r,s,p=>by
   have ih:=ZlA r s p;rw [Zak]
   split
   ·simp only [Xh];omega
   ·split<;>simp
theorem ZiR.add {α:Type} {l:List (Tr α)} (h:ZiR n l) (s:Xu) (p:α):ZiR (n+1) (Zak l s p) :=
 ⟨by have:=ZlA l s p;have:=h.1;omega,Zt0 h.2⟩
theorem Zoa {α:Type}:∀(qs:List (Xu×α)) (l:List (Tr α)),(Zz l qs).length<=l.length+qs.length
 | [],l=>by simp [Zz]
 | q::qs,l=>by
   have h1:=Zoa qs (Zak l q.1 q.2);have h2:=ZlA l q.1 q.2;have a:Zz l (q::qs)=Zz (Zak l q.1 q.2) qs:=rfl;rw [a,Xh];omega
theorem ZmI:∀(fs:List Fld) (b:Int),(∀f∈fs,f.2.length<=4096)->(ZM b fs).length<=4096*fs.length
 | [],b,_=>by simp [ZM]
 | f::r,b,h=>by
   have j:=ZmI r (b+((Z4 f.2).length:Int)+64) fun g k=>h g (by simp [k]);have i:=Zag f.2;have e:=h f (by simp);have c:(Zac f.1 (Z4 f.2) b).length=(Z4 f.2).length:=by simp [Zac]
   rw [ZM,Xd,Xh,c]
   have d:∀a,(ZM a r).length=(ZM (b+((Z4 f.2).length:Int)+64) r).length:=fun a=>by
    clear j h i e c
    induction r generalizing b a with
    | nil=>rfl
    | cons g r ih =>
      rw [ZM,ZM,Xd,Xd];congr 1
      ·simp [Zac]
      ·exact (ih b _).trans (ih b _).symm
   rw [d];omega
theorem ZoU (e:Ev):(Z1 e).length<=65536:=by
 by_cases a:ZH e=0
 ·obtain ⟨c,d⟩:=ZaK.1 a;rw [Zc4 a];have b:=Zoa (ZM 0 e.2) [];have h4:=ZmI e.2 0 fun f hf=>(d f hf).2;unfold Zb6;simp only [Xv,XL] at b;have h5:e.2.length<=16:=by simpa using c
  omega
 ·rw [Zco a];simp
def ZjS (i:Int) (a:List Trm):List (Xu×Zk):=a.map fun t=>(t.1,(i,t.2))
theorem ZnR {a:List Trm} {j:Nat} (b:j<a.length) (i:Int) (R:List (Tr Zk)):Zz R (ZjS i (a.take (j+1)))=Zak (Zz R (ZjS i (a.take j))) a[j].1 (i,a[j].2):=by
 unfold ZjS;rw [XG b,XM,ZaT];rfl
def Zd5 (es:List Ev) (i:Nat):List (Tr Zk):=Zz [] (Zai 0 ((es.map Z1).take i))
theorem ZoZ {es:List Ev} {i:Nat} (hi:i<es.length):Zd5 es (i+1)=Zz (Zd5 es i) (ZjS (i:Int) (Z1 es[i])):=by
 unfold Zd5 ZjS;rw [Zhk (by simpa using hi),ZaT];simp
theorem ZrR (es:List Ev):Zd5 es es.length=Zhq es:=by
 unfold Zd5 Zhq Zib;rw [XO (by simp)]
