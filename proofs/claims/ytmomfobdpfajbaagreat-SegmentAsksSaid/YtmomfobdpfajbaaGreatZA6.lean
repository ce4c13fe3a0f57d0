import Derived.Test.YtmomfobdpfajbaaGreatZA3
import Derived.Test.YtmomfobdpfajbaaGreatZA4
import Derived.Test.YtmomfobdpfajbaaGreatZA5
set_option maxRecDepth 100000
set_option maxHeartbeats 0
set_option linter.unusedVariables false
set_option linter.unusedSimpArgs false
namespace Go.Proofs.YtmomfobdpfajbaaGreat
open Tryz
namespace EV
open RowKit MM EM
variable {S:Nat->Prop} {w:World} {cs:List Value}
def Zae:Codec Fld:=ZeH Zio Zio
def evC:Codec Ev:=ZeH Zbk (Zfq Zae)
theorem ZgZ {f:Fld}:Zae.on S w cs f↔cs=[.string ⟨f.1.toArray⟩,.string ⟨f.2.toArray⟩]:=by
 constructor
 ·rintro ⟨x,y,rfl,a,b⟩;have a:x=[.string ⟨f.1.toArray⟩]:=a;have b:y=[.string ⟨f.2.toArray⟩]:=b;rw [a,b];rfl
 ·rintro rfl;exact ⟨[_],[_],rfl,rfl,rfl⟩
theorem ZCa {e:Ev}:evC.on S w cs e↔∃v,cs=[.int .i64 e.1,v]/\ZB Zae S w v e.2:=by
 constructor
 ·rintro ⟨x,y,rfl,a,v,c,b⟩;have a:x=[.int .i64 e.1]:=a;exact ⟨v,by rw [a,c];rfl,b⟩
 ·rintro ⟨v,rfl,b⟩;exact ⟨[_],[v],rfl,rfl,v,rfl,b⟩
theorem ZeN {p:Option Addr} {n d:Nat} {fs:List Fld} (h:ZB Zae S w (.slice p n d) fs) {k:Nat} (f:k<fs.length) :
  ∃b off,p=some ⟨b,off,none⟩/\b<w.heap.size/\S b/\w.cell? ⟨b,off+k*2,none⟩=some (.string ⟨fs[k].1.toArray⟩)/\w.cell? ⟨b,off+k*2+1,none⟩=some (.string ⟨fs[k].2.toArray⟩):=by
 obtain ⟨b,off,vs,i,c,g,a,e⟩:=h.at_ f;rw [ZgZ] at a;subst a;exact ⟨b,off,i,c,g,e 0 _ rfl,e 1 _ rfl⟩
theorem ZcO (l:Xu):(⟨l.toArray⟩:ByteArray).data.toList=l:=by simp
theorem ZaX (l:Xu):(⟨l.toArray⟩:ByteArray).size=l.length:=by rw [Lib.size_eq]
theorem ZhP (w:World) (x y:Value) (t:TypeId):(w.alloc (.cells #[x,y] t)).cell? ⟨w.heap.size,0,none⟩=some x/\(w.alloc (.cells #[x,y] t)).cell? ⟨w.heap.size,1,none⟩=some y:=by
 have b:=ZdF w [x,y] t 0 x rfl;have a:=ZdF w [x,y] t 1 y rfl;rw [ZZ] at b a;exact ⟨b,a⟩
end EV
namespace MM
open RowKit
variable {S:Nat->Prop} {w:World} {v:Value} {B bytes:Nat} {e:TypeId} {P:Program} {o:Oper} {a:Act}
section
variable {α : Type} {C : Codec α}
variable (C)
def ZC (e:TypeId) (B:Nat) (S:Nat->Prop) (w:World) (v:Value) (es:List α):Prop:=∃b,w.ownsRow B e C.size v es.length b.flatten/\Zbq C S w b es
def Zds (S:Nat->Prop) (w:World) (v:Value) (f:List α):Prop :=
 ∃(p:Option Addr) (c:Nat) (d:List (List Value)),v=.slice p f.length c/\f.length<=c/\(p=none->c=0)/\Zbq C S w d f/\(f=[]\/∃b off,p=some ⟨b,off,none⟩/\∀j u,d.flatten[j]? = some u->w.cell? ⟨b,off+j,none⟩=some u)
variable {C}
theorem ZB.src {g:List α} (h:ZB C S w v g):Zds C S w v g:=by
 obtain ⟨p,d,f,j,m,h2,k,l,c⟩:=h;refine ⟨p,d,f,j,m,k,l,?_⟩;rcases c with c|⟨b,off,i,_,_,c⟩
 ·exact .inl c
 ·exact .inr ⟨b,off,i,c⟩
theorem Zdh {vs:List Value} {d:α} (e:TypeId) (h:C.on S w vs d):Zds C S (w.alloc (.cells vs.toArray e)) (.slice (some ⟨w.heap.size,0,none⟩) 1 1) [d]:=by
 refine ⟨_,1,[vs],rfl,Xa _,(fun h=>by cases h),⟨rfl,fun i hi c => ?_⟩,.inr ⟨w.heap.size,0,rfl,fun j u b => ?_⟩⟩
 ·obtain rfl:i=0:=(by simpa using hi);exact C.keep h (Zu _ _ _) fun _ _ h=>h
 ·rw [Xbp] at b;have:=ZdF w vs e j u b;rw [ZZ] at this;exact this
theorem ZC.nil_ (e:TypeId) (B:Nat) (S:Nat->Prop) (w:World):ZC C e B S w (.slice none 0 0) []:=⟨[],World.ownsRow_nil _ _ _ _,Zbq.nil_ _ _⟩
theorem ZC.lit0 (e:TypeId) (S:Nat->Prop) (w:World) (b:B<=w.heap.size):ZC C e B S (w.alloc (.cells #[] e)) (.slice (some ⟨w.heap.size,0,none⟩) 0 0) []:=by
 refine ⟨[],?_,Zbq.nil_ _ _⟩;have:=World.ownsRow_lit (e:=e) (base:=B) (size:=C.size) w #[] 0 b (XX _) (by simp);simpa using this
theorem ZC.cells {es:List α} (h:ZC C e B S w v es) {g:Nat} (d:v.ownBlock=some g):B<=g/\g<w.heap.size/\∃c fr,w.heap[g]? = some (.cells c e fr):=by
 obtain ⟨f,b,_⟩:=h;exact ⟨(Zbn b d).1,(World.ownsRow.lt b g d).2,(Zbn b d).2⟩
theorem ZC.keep {T:Nat->Prop} {w':World} {es:List α} (h:ZC C e B S w v es) (j:Kep T w w') (l:∀b,b<w.heap.size->S b->T b) (n:∀g,v.ownBlock=some g->T g):ZC C e B S w' v es:=by
 obtain ⟨f,m,k⟩:=h;refine ⟨f,ZdY m j n,k.1,fun i hi d => ?_⟩;exact C.keep (C.keep (k.2 i hi d) (Kep.refl _ _) (T:=fun b=>S b/\b<w.heap.size) fun b c hs=>⟨hs,c⟩) (j.mono' (T:=fun b=>S b/\b<w.heap.size) fun b c hs=>l b c hs.1) fun b c hs=>hs.1
theorem ZC.weak {T:Nat->Prop} {es:List α} (h:ZC C e B S w v es) (g:∀b,b<w.heap.size->S b->T b):ZC C e B T w v es:=by
 obtain ⟨c,d,f⟩:=h;exact ⟨c,d,f.keep (Kep.refl _ _) g⟩
theorem ZC.alloc {es:List α} (h:ZC C e B S w v es) (o:Obj):ZC C e B S (w.alloc o) v es:=h.keep (Zu (fun _=>True) w o) (fun _ _ _=>trivial) (fun _ _=>trivial)
theorem ZC.ron {T:Nat->Prop} {es:List α} (h:ZC C e B S w v es) (s:∀g,v.ownBlock=some g->T g) (t:∀b,b<w.heap.size->S b->T b):ZB C T w v es:=by
 obtain ⟨f,n,r⟩:=h;rcases n.2 with ⟨rfl,q⟩|⟨g,d,m,rfl,hg,k,i,c,hs,l⟩
 ·have:es=[]:=XP q;subst this;exact ZB.nil_ _ _
 ·refine ⟨some ⟨g,0,none⟩,d,f,rfl,i,c,(fun h=>by cases h),r.keep (Kep.refl _ _) t,.inr ⟨g,0,rfl,(Xq.1 k).1,s g rfl,fun j u p => ?_⟩⟩;have:=Lib.cells_of_row k (es.length*C.size) j u (by rw [l];exact p);rw [ZZ] at this;exact this
theorem ZC.any {es:List α} (h:ZC C e B S w v es):ZF C w v es:=h.ron (fun _ _=>trivial) (fun _ _ _=>trivial)
theorem Zo {T:TypeId} (E:Elem C P T e bytes) {ops:Array Oper} {rest:List Oper} {Q:Exit->Act->World->Prop} (r:o.guard=none) (s x:Operand)
  (R:o.op=.call { callee:=.builtin .append,args:=#[s,x],argTypes:=#[T,T] }) (B:Nat) (v:Value) (es:List α) (hs:a.eval s=v) (d:ZC C e B S w v es) (hS:∀b,b<w.heap.size->S b->Apt e B w b)
  (src:Value) (l:List α) (V:a.eval x=src) (Z:Zds C S w src l) (q:es.length+l.length<=maxLen) (hby:(es.length+l.length)*bytes<=140737488355328) (c:B<=w.heap.size)
  (h:∀v' w',ZC C e B S w' v' (es++l)->Below B w w'->Kep (fun k=>v.ownBlock≠some k) w w'->wpList P ops Q rest (a.put o.dst v') w'):wpList P ops Q (o::rest) a w:=by
 obtain ⟨p,M,f,rfl,h1,h3,D,A⟩:=Z;obtain ⟨i,z,hi,X,F,G,N⟩:=E.info;cases p with
 | none =>
   have h0:=h3 rfl;subst h0;have hd:l=[]:=XP (by omega);subst hd;obtain ⟨g,y,O⟩:=id d;refine wpList_append_own_none r s x T R B e i C.size E.under hi v es.length _ hs y V (h v w ?_ (Below.refl _ _) (Kep.refl _ _));rw [XH];exact d
 | some W =>
   refine wpList_plain r fun _ hK => ?_;obtain ⟨g,y,O⟩:=d;have H:∀k,v.ownBlock=some k->B<=k:=fun k m=>(World.ownsRow.lt y k m).1;have hl:f.flatten.length=l.length*C.size:=by rw [ZeM D.lens,D.1]
   refine wp_append_own _ s x T R B e i z C.size bytes E.under hi X F G N C.pos v es.length _ hs y W l.length M f.flatten V hl ?_ D.ones q hby c (fun v' w' h4 J _ => ?_)
   ·intro j u U;rcases A with A|⟨b,off,Y,A⟩
    ·subst A;have:f=[]:=XP (by rw [D.1];rfl);subst this;simp at U
    ·obtain rfl:W=⟨b,off,none⟩:=XW Y;rw [ZZ];exact A j u U
   ·have n:Below B w w':=(Below.refl B _).grown J c H;have m:Kep (Apt e B w) w w':=ZO J fun k m hA=>ZcZ y hA m;refine hK _ _ (h v' w' ⟨g++f,?_,?_⟩ n (ZO J fun k m I=>I m))
    ·rw [Xd,XaN];exact h4
    ·have t:=O.append D;refine ⟨t.1,fun i hi L => ?_⟩;exact C.keep (C.keep (t.2 i hi L) (Kep.refl _ _) (T:=fun b=>S b/\b<w.heap.size) fun b n hs=>⟨hs,n⟩) (m.mono' (T:=fun b=>S b/\b<w.heap.size) fun b n hs=>hS b n hs.1) fun b n hs=>hs.1
theorem ZgB {T:TypeId} (E:Elem C P T e bytes) {K:Act->World->Prop} {Q:Exit->Act->World->Prop} (s x:Operand)
  (X:o.op=.call { callee:=.builtin .append,args:=#[s,x],argTypes:=#[T,T] }) (B:Nat) (v:Value) (es:List α) (c:World) (vs:List Value) (d:α) (R:w=c.alloc (.cells vs.toArray e)) (hs:a.eval s=v) (r:ZC C e B S c v es) (W:∀b,b<c.heap.size->S b->Apt e B c b)
  (H:C.on S c vs d) (Z:a.eval x=.slice (some ⟨c.heap.size,0,none⟩) 1 1) (q:es.length+1<=maxLen) (hby:(es.length+1)*bytes<=140737488355328) (j:B<=c.heap.size)
  (h:∀v' w',ZC C e B S w' v' (es++[d])->Below B c w'->Kep (fun k=>v.ownBlock≠some k) w w'->(∃g m,v'=.slice (some ⟨g,0,none⟩) (es.length+1) m)->K (a.put o.dst v') w'):o.wp P a w K Q:=by
 subst R;have l:Below c.heap.size c (c.alloc (.cells vs.toArray e)):=(Below.refl _ _).alloc (Xa _) _;obtain ⟨i,z,hi,U,y,A,u⟩:=E.info;obtain ⟨n,L,O⟩:=r;have J:=Zdc (B:=0) L l;have D:∀k,v.ownBlock=some k->B<=k:=fun k t=>(World.ownsRow.lt J k t).1;have Y:=C.len H;refine wp_append_own _ s x T X B e i z C.size bytes E.under hi U y A u C.pos v es.length _ hs J ⟨c.heap.size,0,none⟩ 1 1 vs Z (by rw [Y,Nat.one_mul]) (ZdF c vs e) (C.one H) q hby (by simp;omega) (fun v' w' M G _ => ?_);have p:Below B (c.alloc (.cells vs.toArray e)) w':=(Below.refl B _).grown G (by simp;omega) D;have I:Kep (fun k=>v.ownBlock≠some k) c w':=(Za _ l).trans (ZO G fun k t f=>f t);have F:Zbq C (fun b=>S b/\b<c.heap.size) c (n++[vs]) (es++[d]):=(O.append (Zbq.single H)).keep (Kep.refl _ _) fun b p hs=>⟨hs,p⟩;have hm:Zbq C (fun b=>S b/\b<c.heap.size) w' (n++[vs]) (es++[d]):=F.keep (I.mono' (T:=fun b=>S b/\b<c.heap.size) fun b p hs V=>ZcZ L (W b p hs.1) V) fun b p hs=>hs;refine h v' w' ⟨n++[vs],?_,hm.keep (Kep.refl _ _) fun b _ hs=>hs.1⟩ ((l.mono j).trans p) (ZO G fun k t f=>f t) ?_
 ·rw [Xd,XaN,Xbp];exact M
 ·rcases M.2 with ⟨_,h0⟩|⟨g,m,N,hv,_⟩
  ·omega
  ·exact ⟨g,m,hv⟩
end
end MM
namespace EV
open RowKit MM EM
variable {S:Nat->Prop} {w:World}
abbrev Zq:=Int×Ev
def ZD:Codec Zq:=ZeH Zbk evC
theorem ZcB {c:List Value} {d:Zq}:ZD.on S w c d↔∃v,c=[.int .i64 d.1,.int .i64 d.2.1,v]/\ZB Zae S w v d.2.2:=by
 constructor
 ·rintro ⟨x,y,rfl,b,e⟩;have b:x=[.int .i64 d.1]:=b;obtain ⟨v,f,a⟩:=ZCa.1 e;exact ⟨v,by rw [b,f];rfl,a⟩
 ·rintro ⟨v,rfl,a⟩;exact ⟨[_],[_,_],rfl,rfl,ZCa.2 ⟨v,rfl,a⟩⟩
theorem Zx1:Elem Zae prog 55 123 32:=⟨underlying55,by
 have h:(prog.info? 123).map (fun i=>(i.zero,i.size,i.bytes))=some (some (.agg #[.string ⟨#[]⟩,.string ⟨#[]⟩]),2,32):=by kernel_rfl
 obtain ⟨i,a,d,c,b⟩:=info_parts h;exact ⟨i,_,a,d,c,b,rfl⟩⟩
theorem Zt1 {S':Nat->Prop} {v:Value} {fs:List Fld} (h:ZB Zae S w v fs):Zds Zae S' w v fs:=by
 obtain ⟨p,a,c,j,g,f,d,e⟩:=ZB.src h;exact ⟨p,a,c,j,g,f,⟨d.1,fun i hi b=>ZgZ.2 (ZgZ.1 (d.2 i hi b))⟩,e⟩
theorem ZjR:Elem ZD prog 22 59 40:=⟨underlying22,by
 have h:(prog.info? 59).map (fun i=>(i.zero,i.size,i.bytes))=some (some (.agg #[.int .i64 0,.int .i64 0,.slice none 0 0]),3,40):=by kernel_rfl
 obtain ⟨i,a,d,c,b⟩:=info_parts h;exact ⟨i,_,a,d,c,b,rfl⟩⟩
theorem Z2 {p:Option Addr} {n f:Nat} {a:List Zq} (h:ZB ZD S w (.slice p n f) a) {k:Nat} (g:k<a.length) :
  ∃b off v,p=some ⟨b,off,none⟩/\b<w.heap.size/\S b/\w.cell? ⟨b,off+k*3,none⟩=some (.int .i64 a[k].1)/\w.cell? ⟨b,off+k*3+1,none⟩=some (.int .i64 a[k].2.1)/\w.cell? ⟨b,off+k*3+2,none⟩=some v/\ZB Zae S w v a[k].2.2:=by
 obtain ⟨b,off,vs,l,e,j,c,d⟩:=h.at_ g;rw [ZcB] at c;obtain ⟨v,rfl,i⟩:=c;exact ⟨b,off,v,l,e,j,d 0 _ rfl,d 1 _ rfl,d 2 _ rfl,i⟩
end EV
namespace RM
open TK (Z4 Zag ZhZ)
open EM (Fld Ev Tr Trm ZH ZaK Zda Z1 Zb6 Znd Zie ZoT ZX Zak Zz ZaT Zek Zi7 Zm Zbf ZeV ZM Zac Zgn Zhj ZdP ZaO Zg Zbd ZiZ Zfw)
open PM (Zk Za1 ZcM isL Zed okL okP Zpp)
theorem Zc4 {e:Ev} (h:ZH e=0):Z1 e=Zb6 e.2:=by unfold Z1;rw [Xc (by simpa using h)]
theorem Zco {e:Ev} (h:ZH e≠0):Z1 e=[]:=by unfold Z1;rw [Xe h]
theorem Znv (e:Ev):ZX (Z1 e):=by
 by_cases h:ZH e=0
 ·rw [Zc4 h];exact Zie _
 ·rw [Zco h];simp [ZX]
theorem ZhX (e:Ev):∀t∈Z1 e,t.2≠[]:=by
 by_cases h:ZH e=0
 ·rw [Zc4 h];exact ZoT _
 ·rw [Zco h];simp
theorem Zcy {α:Type}:∀{l:List (Tr α)} {t:Tr α},ZX l->t∈l->Zm l t.1=t.2
 | u::r,t,h,a=>by
   unfold ZX at h;rw [XaA] at h;rw [Zm];rcases XT.1 a with rfl|a
   ·rw [Xe rfl]
   ·rw [Xc (Zbd (h.1 t a))];exact Zcy h.2 a
theorem Zj1 {α:Type}:∀(qs:List (Xu×α)) {l:List (Tr α)} {t:Tr α},t∈Zz l qs->(∃u∈l,u.1=t.1)\/∃q∈qs,q.1=t.1
 | [],l,t,h=>.inl ⟨t,h,rfl⟩
 | q::qs,l,t,h=>by
   rcases Zj1 qs (l:=Zak l q.1 q.2) h with ⟨u,c,e⟩|⟨p,b,e⟩
   ·rcases ZiZ c with a|⟨v,d,a⟩
    ·exact .inr ⟨q,by simp,by rw [<- e,a]⟩
    ·exact .inl ⟨v,d,by rw [<- e,a]⟩
   ·exact .inr ⟨p,by simp [b],e⟩
theorem ZmK:∀{fs:List Fld} {base:Int} {q:Xu×Int},q∈ZM base fs->∃f∈fs,∃x∈Z4 f.2,q.1=f.1++58::x
 | f::r,base,q,h=>by
   rw [ZM,Xam] at h;rcases h with h|h
   ·unfold Zac at h;obtain ⟨p,a,rfl⟩:=X4.1 h;exact ⟨f,by simp,p.1,(List.mem_zipIdx a).2.2▸XI _,rfl⟩
   ·obtain ⟨g,b,h⟩:=ZmK h;exact ⟨g,by simp [b],h⟩
theorem Znc {e:Ev} {t:Trm} (h:t∈Z1 e):1<=t.1.length/\t.1.length<=65:=by
 by_cases a:ZH e=0
 ·rw [Zc4 a] at h;rcases Zj1 _ h with ⟨u,c,_⟩|⟨q,i,b⟩
  ·simp at c
  ·obtain ⟨f,hf,x,d,g⟩:=ZmK i;have h1:=Zda ((ZaK.1 a).2 f hf).1;have h2:=(ZhZ f.2 x d).2;rw [<- b,g];simp only [Xd,Xh];omega
 ·rw [Zco a] at h;simp at h
theorem Zjo:∀(fs:List Fld) (base:Int),∀v∈(ZM base fs).map (·.2),v<base+ZaO fs
 | [],base,v,h=>by simp [ZM] at h
 | f::r,base,v,h=>by
   have e:ZaO (f::r)=((Z4 f.2).length:Int)+64+ZaO r:=by simp [ZaO]
   have hp:0<=ZaO r:=by
    clear h e
    induction r with
    | nil=>simp [ZaO]
    | cons g r ih=>have:ZaO (g::r)=((Z4 g.2).length:Int)+64+ZaO r:=by simp [ZaO]
                   omega
   rw [ZM,XM,Xam,Zgn] at h;rcases h with h|h
   ·obtain ⟨k,a,rfl⟩:=X4.1 h;have:=List.mem_range.1 a;omega
   ·have:=Zjo r _ v h;omega
theorem ZpZ:∀{fs:List Fld},(∀f∈fs,f.2.length<=4096)->ZaO fs<=4160*(fs.length:Int)
 | [],_=>by simp [ZaO]
 | f::r,h=>by
   have e:ZaO (f::r)=((Z4 f.2).length:Int)+64+ZaO r:=by simp [ZaO]
   have h1:=Zag f.2;have h2:=h f (by simp);have h3:=ZpZ (fs:=r) fun g a=>h g (by simp [a]);rw [e,Xh];omega
theorem Zrv {b:Int}:∀{c:List Int} {a:Int},(∀z∈c,a<z/\z<b)->c.Pairwise (·<·)->Za1 b a c=true
 | [],a,_,_=>rfl
 | z::c,a,h,hp=>by
   rw [XaA] at hp;have e:=h z (by simp);rw [Za1,Xw,Xw,Xg,Xg];exact ⟨e,Zrv (fun y d=>⟨hp.1 y d,(h y (by simp [d])).2⟩) hp.2⟩
theorem ZrL (e:Ev) (x:Xu):ZcM 1048576 (Zm (Z1 e) x)=true:=by
 by_cases b:ZH e=0
 ·obtain ⟨h1,g⟩:=ZaK.1 b;rw [Zc4 b,Znd];have a:(((ZM 0 e.2).filter (fun q=>q.1=x)).map (·.2)).Sublist ((ZM 0 e.2).map (·.2)):=List.filter_sublist.map _;refine Zrv (fun z d => ?_) ((Zhj e.2 0).sublist a);have c:=a.subset d;have b1:=ZdP e.2 0 z c;have b2:=Zjo e.2 0 z c;have b3:=ZpZ fun f hf=>(g f hf).2;omega
 ·rw [Zco b];rfl
def Zai:Int->List (List Trm)->List (Xu×Zk)
 | _,[]=>[]
 | i,ts::r=>ts.map (fun t=>(t.1,(i,t.2)))++Zai (i+1) r
theorem Zb3:∀(a b:List (List Trm)) (i:Int),Zai i (a++b)=Zai i a++Zai (i+(a.length:Int)) b
 | [],b,i=>by simp [Zai]
 | t::a,b,i=>by
   rw [XK,Zai,Zai,Zb3 a b,Xk,Xh];congr 3
   omega
theorem Zhk {tss:List (List Trm)} {k:Nat} (a:k<tss.length):Zai 0 (tss.take (k+1))=Zai 0 (tss.take k)++tss[k].map (fun t=>(t.1,((k:Int),t.2))):=by
 rw [XG a,Zb3,Zai,Zai,XH,Xi,Xan (Xal a),Int.zero_add]
def Zib (tss:List (List Trm)):List (Tr Zk):=Zz [] (Zai 0 tss)
theorem ZpD (tss:List (List Trm)):ZX (Zib tss):=Zek _ (by simp [ZX])
theorem Zm2 (tss:List (List Trm)):∀t∈Zib tss,t.2≠[]:=Zi7 _ (by simp)
theorem ZmL:∀{tss:List (List Trm)} {i:Int} {q:Xu×Zk},q∈Zai i tss->∃a∈tss,∃t∈a,q.1=t.1
 | a::r,i,q,h=>by
   rw [Zai,Xam] at h;rcases h with h|h
   ·obtain ⟨t,b,rfl⟩:=X4.1 h;exact ⟨a,by simp,t,b,rfl⟩
   ·obtain ⟨c,d,h⟩:=ZmL h;exact ⟨c,by simp [d],h⟩
theorem Zwc {tss:List (List Trm)} {r:Tr Zk} (h:r∈Zib tss):∃a∈tss,∃t∈a,r.1=t.1:=by
 rcases Zj1 _ h with ⟨u,b,_⟩|⟨q,f,e⟩
 ·simp at b
 ·obtain ⟨a,d,t,g,c⟩:=ZmL f;exact ⟨a,d,t,g,by rw [<- e,c]⟩
def Zhm:Int->List (List Trm)->Xu->List Zk
 | _,[],_=>[]
 | i,ts::r,x=>(if Zm ts x=[] then [] else [(i,Zm ts x)])++Zhm (i+1) r x
theorem filter_one:∀{a:List Trm} (i:Int) (x:Xu),ZX a->(∀t∈a,t.2≠[]) ->
  ((a.map fun t=>(t.1,((i,t.2):Zk))).filter (fun q=>q.1=x)).map (·.2)=if Zm a x=[] then [] else [(i,Zm a x)]
 | [],i,x,_,_=>by simp [Zm]
 | t::r,i,x,h,hn=>by
   unfold ZX at h;rw [XaA] at h;have ih:=filter_one i x h.2 fun u b=>hn u (by simp [b]);rw [XC,Zm]
   by_cases e:t.1=x
   ·subst e;have d:Zm r t.1=[]:=Zbf fun u b c=>Zbd (h.1 u b) c.symm;rw [Xe rfl,Xc (hn t (by simp)),Xbv (by simp),XC,ih,d];simp
   ·rw [Xc e,Xbn (by simpa using e),ih]
theorem Zjp:∀{tss:List (List Trm)} (i:Int) (x:Xu),(∀a∈tss,ZX a/\∀t∈a,t.2≠[])->((Zai i tss).filter (fun q=>q.1=x)).map (·.2)=Zhm i tss x
 | [],i,x,_=>rfl
 | a::r,i,x,h=>by
   rw [Zai,List.filter_append,XM,Zhm,filter_one i x (h a (by simp)).1 (h a (by simp)).2,Zjp (i+1) x fun b c=>h b (by simp [c])]
theorem Zrx {tss:List (List Trm)} (h:∀a∈tss,ZX a/\∀t∈a,t.2≠[]) (x:Xu):Zm (Zib tss) x=Zhm 0 tss x:=by
 unfold Zib;rw [ZeV _ _ (by simp [ZX]),Zjp 0 x h];rfl
theorem ZyQ {ps:List Zk} {n m:Int} (h:okL n ps) (hm:m<=n):okL m ps:=by
 cases ps with
 | nil=>trivial
 | cons p ps =>
   rw [okL] at h ⊢;unfold okP at h ⊢;exact ⟨⟨by omega,h.1.2⟩,h.2⟩
theorem Zou:∀{tss:List (List Trm)} {n:Int} {x:Xu},(∀b∈tss,ZcM 1048576 (Zm b x)=true)->n+(tss.length:Int)<=65536->okL n (Zhm n tss x)
 | [],n,x,_,_=>trivial
 | b::r,n,x,h,hn=>by
   rw [Xh] at hn;have ih:=Zou (tss:=r) (n:=n+1) (x:=x) (fun c d=>h c (by simp [d])) (by omega);rw [Zhm]
   split
   ·rw [XE];exact ZyQ ih (by omega)
   ·rename_i a;rw [Xa8,okL];refine ⟨⟨by omega,?_,a,h b (by simp)⟩,ih⟩
    show n<65536
    omega
theorem ZvY (es:List Ev) (x:Xu) (h:es.length<=65536):isL (Zhm 0 (es.map Z1) x)=true:=by
 rw [Zed];refine Zou (fun ts a => ?_) (by rw [XF];omega);obtain ⟨e,_,rfl⟩:=X4.1 a;exact ZrL e x
theorem Zwo (es:List Ev):∀b∈es.map Z1,ZX b/\∀t∈b,t.2≠[]:=fun b a=>by
 obtain ⟨e,_,rfl⟩:=X4.1 a;exact ⟨Znv e,ZhX e⟩
def Zhq (es:List Ev):List (Tr Zk):=Zib (es.map Z1)
theorem Zem (es:List Ev):ZX (Zhq es):=ZpD _
theorem ZkZ (es:List Ev) (x:Xu):Zm (Zhq es) x=Zhm 0 (es.map Z1) x:=Zrx (Zwo es) x
theorem Zkk {es:List Ev} (h:es.length<=65536) {r:Tr Zk} (a:r∈Zhq es):isL r.2=true/\r.2≠[]:=by
 have e:=Zcy (Zem es) a;rw [ZkZ] at e;exact ⟨by rw [<- e];exact ZvY es r.1 h,Zm2 _ r a⟩
theorem ZdJ {es:List Ev} {r:Tr Zk} (c:r∈Zhq es):1<=r.1.length/\r.1.length<=65:=by
 obtain ⟨ts,a,t,b,e⟩:=Zwc c;obtain ⟨ev,_,rfl⟩:=X4.1 a;rw [e];exact Znc b
theorem Zd3 {es:List Ev} (h:es.length<=65536) {r:Tr Zk} (a:r∈Zhq es):r.2.length<=65536:=Zpp _ ((Zed _).1 (Zkk h a).1)
end RM
namespace GM
open VM
open TK (Z4 Zag)
open EM (Ev Tr Trm Fld ZX Zm Z1 Zb6 Zaf Zz ZeO ZiE ZeZ Zap ZJ Z0 Zak Zc0 ZH)
open PM (Zk isL)
open RM (Zhq Zib Zai Zb3 Zc4 Zco ZhX ZdJ Zd3)
theorem ZiO (f:Fld) (r:List Fld):Zap (f::r)=f.1.length+f.2.length+Zap r:=by simp [Zap]
theorem Zo0:∀fs:List Fld,ZeZ fs<=Zap fs
 | []=>by simp [ZeZ]
 | f::r=>by
   have h1:=Zo0 r;have h2:=Zag f.2;have e:ZeZ (f::r)=(Z4 f.2).length+ZeZ r:=by simp [ZeZ]
   rw [e,ZiO];omega
theorem places_cons {α:Type} (t:Tr α) (T:List (Tr α)):(Zaf (t::T)).length=t.2.length+(Zaf T).length:=by simp [Zaf]
theorem Zmv {α:Type}:∀{T:List (Tr α)},(∀t∈T,t.2≠[])->T.length<=(Zaf T).length
 | [],_=>by simp
 | t::T,h=>by
   have h1:=Zmv (T:=T) fun u a=>h u (by simp [a]);have h2:=Xaa.2 (h t (by simp));rw [places_cons,Xh];omega
theorem Znu (e:Ev):(Zaf (Z1 e)).length<=ZeZ e.2:=by
 by_cases h:ZH e=0
 ·rw [Zc4 h,ZiE];exact Xa _
 ·rw [Zco h];simp [Zaf]
open EM (Ev Tr Trm ZiS ZX Zm Z1 Zg)
open DM (ZN okX Zfb ZbC ZfY Zdt ZmZ ZbD)
open SM (Zq isS encS ZgL ZgW Zdx ZaS ZaJ Zcv)
open RM (Zhq Zem Zkk ZdJ Zd3 ZkZ)
open FM (Zam Zx ZaH Zbv ZfN Zj2)
open BM (ZcG ZpV Zfv Zjj ZeX Zdf Zh2 ZlB ZlD)
variable {k:Nat}
def evs (l:List Zq):List Ev:=l.map (·.2)
def Zp (l:List Zq):List (Tr Zk):=Zhq (evs l)
def Z3:Int->List Zq->Xu
 | _,[]=>[]
 | a,d::r=>ZaV (IntKind.i64.wrap (d.2.1 - a))++Z3 d.2.1 r
def ZcJ:Int->List Zq->Int
 | a,[]=>a
 | _,d::r=>ZcJ d.2.1 r
theorem Zif:∀(a b:List Zq) (z:Int),Z3 z (a++b)=Z3 z a++Z3 (ZcJ z a) b
 | [],b,z=>rfl
 | d::a,b,z=>by rw [XK,Z3,Z3,Zif a b,ZcJ,Xk]
theorem ZiA:∀(a:List Zq) (d:Zq) (z:Int),ZcJ z (a++[d])=d.2.1
 | [],d,z=>rfl
 | x::a,d,z=>by rw [XK,ZcJ,ZiA a d]
theorem Zhx {l:List Zq} (a:k<l.length) (z:Int):Z3 z (l.take (k+1))=Z3 z (l.take k)++ZaV (IntKind.i64.wrap (l[k].2.1 - ZcJ z (l.take k))):=by
 rw [XG a,Zif,Z3,Z3,XH]
theorem Zgh {l:List Zq} (a:k<l.length) (z:Int):ZcJ z (l.take (k+1))=l[k].2.1:=by
 rw [XG a,ZiA]
def Zl (rows:List (Tr Zk)):Xu:=rows.flatMap fun r=>PM.ZY r.2
theorem Zfd {rows:List (Tr Zk)} (a:k<rows.length):Zl (rows.take (k+1))=Zl (rows.take k)++PM.ZY rows[k].2:=by
 unfold Zl;rw [XG a,XaQ];simp
theorem Zfe (rows:List (Tr Zk)) (k:Nat):(Zl (rows.take k)).length<=(Zl rows).length:=by
 have:Zl rows=Zl (rows.take k)++Zl (rows.drop k):=by
  unfold Zl;rw [<- XaQ,X8]
 rw [this,Xd];omega
def ZS:Int->List (Tr Zk)->List ZN
 | _,[]=>[]
 | off,r::l=>(r.1,(off,(((PM.ZY r.2).length:Int),(r.2.length:Int))))::ZS (off+((PM.ZY r.2).length:Int)) l
theorem Zi5:∀(a b:List (Tr Zk)) (off:Int),ZS off (a++b)=ZS off a++ZS (off+((Zl a).length:Int)) b
 | [],b,off=>by simp [ZS,Zl]
 | r::a,b,off=>by
   have e:Zl (r::a)=PM.ZY r.2++Zl a:=by simp [Zl]
   rw [XK,ZS,ZS,Zi5 a b,e,Xd,XK];congr 3
   omega
theorem Zf8 {rows:List (Tr Zk)} (a:k<rows.length):ZS 0 (rows.take (k+1))=ZS 0 (rows.take k)++[(rows[k].1,(((Zl (rows.take k)).length:Int),(((PM.ZY rows[k].2).length:Int),(rows[k].2.length:Int))))]:=by
 rw [XG a,Zi5,ZS,ZS,Int.zero_add]
theorem Zb1:∀(rows:List (Tr Zk)) (off:Int),(ZS off rows).length=rows.length
 | [],_=>rfl
 | r::rows,off=>by rw [ZS,Xh,Xh,Zb1 rows]
theorem ZkF:∀(rows:List (Tr Zk)) (off:Int),(ZS off rows).map (·.1)=rows.map (·.1)
 | [],_=>rfl
 | r::rows,off=>by rw [ZS,XC,XC,ZkF rows]
theorem ZnY:∀{rows:List (Tr Zk)} {off:Int} {p:Option Xu},ZX rows->(∀r∈rows,1<=r.1.length/\r.1.length<=65/\r.2.length<=65536)->(∀q,p=some q->∀r∈rows,Zg q r.1=true)->0<=off ->
  off+((Zl rows).length:Int)<=67108864->ZfY p (ZS off rows)=true
 | [],off,p,_,_,_,_,_=>by cases p<;>rfl
 | r::rows,off,p,h,h2,h3,h4,h5=>by
   unfold ZX at h;rw [XaA] at h;have e:Zl (r::rows)=PM.ZY r.2++Zl rows:=by simp [Zl]
   rw [e,Xd] at h5;have b:=h2 r (by simp);rw [ZS,Zdt,Xw,Xw];refine ⟨⟨Zfb.2 ⟨⟨b.1,b.2.1⟩,⟨h4,?_⟩,⟨?_,?_⟩,?_,?_⟩,?_⟩,ZnY (off:=off+((PM.ZY r.2).length:Int)) h.2 (fun u a=>h2 u (by simp [a])) (fun q c u a => ?_) (by omega) (by omega)⟩
   ·show off<=67108864
    omega
   ·show (0:Int)<=((PM.ZY r.2).length:Int)
    omega
   ·show ((PM.ZY r.2).length:Int)<=67108864
    omega
   ·show (0:Int)<=(r.2.length:Int)
    omega
   ·show (r.2.length:Int)<=67108864
    omega
   ·cases p with
    | none=>rfl
    | some q=>exact h3 q rfl r (by simp)
   ·obtain rfl:=XW c;exact h.1 u a
def Z8 (rows:List (Tr Zk)):Xu:=(ZcG (Zfv rows.length) (rows.map (·.1))).1
theorem Ze6 (rows:List (Tr Zk)):(Z8 rows).length=ZeX rows.length:=by
 unfold Z8;rw [ZpV,Zjj]
abbrev ZiU:=Int×Int×Int×Int×Nat
def ZgD (p:ZiU) (d:Zq):ZiU:=if p.2.2.2.2=0 then (d.2.1,d.2.1,d.1,d.1,1) else (min p.1 d.2.1,max p.2.1 d.2.1,p.2.2.1,d.1,p.2.2.2.2+1)
def Zj (l:List Zq):ZiU:=l.foldl ZgD (0,0,0,0,0)
theorem Ziv {l:List Zq} (a:k<l.length):Zj (l.take (k+1))=ZgD (Zj (l.take k)) l[k]:=by
 unfold Zj;rw [XG a,XaZ];rfl
theorem Zg1 (l:List Zq):∀{k:Nat},k<=l.length->(Zj (l.take k)).2.2.2.2=k
 | 0,_=>rfl
 | k+1,hk=>by
   rw [Ziv (by omega),ZgD];have ih:=Zg1 l (k:=k) (by omega)
   split
   ·rename_i h0
    show 1=k+1
    omega
   ·show (Zj (l.take k)).2.2.2.2+1=k+1
    omega
def Zdo (p:ZiU):Xu:=ZaV p.1++(ZaV p.2.1++(ZaV p.2.2.1++(ZaV p.2.2.2.1++ZaV (p.2.2.2.2:Int))))
def Zax (l:List Zq):List Xu:=[SM.encS l,Z3 0 l,Zl (Zp l),ZbD (ZS 0 (Zp l)),Z8 (Zp l),Zdo (Zj l)]
def ZaE (l:List Zq):Xu:=[76,83,69,71]++Zx (Zax l)
def Zl8 (l:List Zq):Bool:=(Zax l).all fun s=>decide (s.length<=16777216)
def ZeJ (l:List Zq):Xu×Int :=
 if isS l=false\/l=[] then ([],130) else if 262144<(Zp l).length\/16777216<(Zl (Zp l)).length\/Zl8 l=false then ([],2) else (ZaE l,0)
theorem Zis (l:List Zq):ZeJ l=([],130)\/ZeJ l=([],2)\/ZeJ l=(ZaE l,0):=by
 unfold ZeJ
 split
 ·exact .inl rfl
 ·split
  ·exact .inr (.inl rfl)
  ·exact .inr (.inr rfl)
theorem Zf6 {l:List Zq} {b:Xu} (h:ZeJ l=(b,0)):isS l=true/\l≠[]/\(Zp l).length<=262144/\(Zl (Zp l)).length<=16777216/\Zl8 l=true/\b=ZaE l:=by
 unfold ZeJ at h
 split at h
 ·simp at h
 ·rename_i a
  split at h
  ·simp at h
  ·rename_i c;have d:=Xr Prod.fst h;simp only [not_or] at a c;exact ⟨by simpa using a.1,a.2,by omega,by omega,by simpa using c.2.2,d.symm⟩
theorem Zsr {l:List Zq} {b:Xu} (h:ZeJ l=(b,0)) (r:Xu):Zbv ((b++r).drop 4)=(SM.encS l,(Zam (SM.encS l)).length,0):=by
 obtain ⟨_,_,_,_,a,rfl⟩:=Zf6 h
 have c:(SM.encS l).length<=16777216:=by
  unfold Zl8 Zax at a;simp only [List.all_cons,Xw,Xg] at a;exact a.1
 have e:(ZaE l++r).drop 4=Zam (SM.encS l)++(Zx (Zax l).tail++r):=by
  unfold ZaE Zax;rw [ZaH];simp only [Xk,List.tail_cons];rfl
 rw [e,ZfN c]
def ZgK (b:Xu):Option (List Zq) :=
 if b.length<4 then none
 else if (Zbv (b.drop 4)).2.2≠0 then none
 else match ZgL (Zbv (b.drop 4)).1 with
  | none=>none
  | some l=>if ZeJ l=(b,0) then some l else none
theorem Zqo {l:List Zq} {b:Xu} (hf:ZaS l) (h:ZeJ l=(b,0)):ZgK b=some l:=by
 have a:=Zsr h [];rw [XH] at a;obtain ⟨c,_,_,_,_,e⟩:=Zf6 h;have d:¬b.length<4:=by rw [e];unfold ZaE;simp
 unfold ZgK;rw [Xc d,a];dsimp only;rw [Xc (by simp),ZgW c hf];dsimp only;rw [Xe h]
theorem ZjQ {b:Xu} {l:List Zq} (h:ZgK b=some l):ZeJ l=(b,0)/\ZaS l:=by
 unfold ZgK at h
 split at h
 ·cases h
 ·split at h
  ·cases h
  ·split at h
   ·cases h
   ·rename_i m a
    split at h
    ·rename_i c;obtain rfl:=XW h;exact ⟨c,(Zdx a).2.1⟩
    ·cases h
theorem Zxx {b:Xu} {l:List Zq}:ZgK b=some l↔ZeJ l=(b,0)/\ZaS l:=⟨ZjQ,fun ⟨a,c⟩=>Zqo c a⟩
theorem ZxQ {l:List Zq} (h:isS l=true) (a:(Zp l).length<=262144) (hp:(Zl (Zp l)).length<=16777216):ZbC (ZS 0 (Zp l))=true:=by
 have b:(evs l).length<=65536:=by unfold evs;rw [XF];exact (Zcv.1 h).1
 unfold ZbC;rw [Zb1,Xw,Xg];refine ⟨a,ZnY (Zem _) (fun r a => ?_) (fun q c=>by cases c) (by omega) (by omega)⟩;exact ⟨(ZdJ a).1,(ZdJ a).2,Zd3 b a⟩
theorem Zry {l:List Zq} (h:isS l=true):∀r∈Zp l,isL r.2=true/\r.2≠[]:=fun r a=>Zkk (by unfold evs;rw [XF];exact (Zcv.1 h).1) a
def ZaD (rows:List (Tr Zk)) (p:Xu):List Xu:=(rows.map (·.1)).filter fun t=>decide (t.take p.length=p)
def ZiH (l:List Zq) (a b:Int):List Int:=((List.range l.length).filter fun k=>decide (a<=(l.getD k SM.ZcA).2.1)&&decide ((l.getD k SM.ZcA).2.1<=b)).map (fun k:Nat=>(k:Int))
def Zbg (l:List Zq) (a b:Int) (n:Nat):List Int:=((List.range n).filter fun k=>decide (a<=(l.getD k SM.ZcA).2.1)&&decide ((l.getD k SM.ZcA).2.1<=b)).map (fun k:Nat=>(k:Int))
theorem Zff {l:List Zq} {a b:Int} {n:Nat} (c:n<l.length):Zbg l a b (n+1)=Zbg l a b n++if a<=l[n].2.1/\l[n].2.1<=b then [(n:Int)] else []:=by
 unfold Zbg;rw [XaS,List.filter_append,XM];congr 1
 have e:l.getD n SM.ZcA=l[n]:=by simp [List.getD,c]
 by_cases h:a<=l[n].2.1/\l[n].2.1<=b
 ·rw [Xe h,Xbv (by rw [e];simp [h])];rfl
 ·rw [Xc h,Xbn (by rw [e];simp;omega)];rfl
theorem Zgp (l:List Zq) (a b:Int):Zbg l a b l.length=ZiH l a b:=rfl
theorem Zjr {rows:List (Tr Zk)} {p:Xu} (a:k<rows.length):ZaD (rows.take (k+1)) p=ZaD (rows.take k) p++if rows[k].1.take p.length=p then [rows[k].1] else []:=by
 unfold ZaD;rw [XG a,XM,List.filter_append];congr 1
 by_cases h:rows[k].1.take p.length=p
 ·rw [Xe h,XC,Xbv (by simpa using h)];rfl
 ·rw [Xc h,XC,Xbn (by simpa using h)];rfl
end GM
namespace GM
open VM
open TK (Z4 Zag)
open EM (Ev Tr Trm Fld ZX Zm Z1 Zb6 Zaf Zz ZeO ZiE ZeZ Zap ZJ Z0 Zak Zc0 ZH)
open PM (Zk isL)
open DM (ZN ZbD ZbC)
open SM (Zq isS encS ZR Zck Zcl Zk8 Zfc Zcv ZcA Zl1)
open RM (Zhq Zib Zai Zb3 Zc4 Zco ZhX ZdJ Zd3)
open BM (ZeX Zdf)
def ZcD (l:List Zq):Nat:=(l.map fun d=>Zap d.2.2).sum
theorem Zko {l:List Zq} {k:Nat} (a:k<l.length):ZcD (l.take (k+1))=ZcD (l.take k)+Zap l[k].2.2:=by
 unfold ZcD;rw [XG a,XM,List.sum_append];simp
theorem ZoQ (l:List Zq) (k:Nat):ZcD (l.take k)<=ZcD l:=by
 have:ZcD l=ZcD (l.take k)+ZcD (l.drop k):=by
  unfold ZcD;rw [<- List.sum_append,<- XM,X8]
 omega
theorem ZnJ:∀fs:List Fld,Zap fs<=(ZJ fs).length
 | []=>by simp [Zap]
 | f::r=>by
   have:=ZnJ r;rw [Zc0,ZiO];unfold Z5;simp only [Xd];omega
theorem ZuO (e:Ev):Zap e.2<=(Z0 e).length:=by
 have:=ZnJ e.2;unfold Z0;simp only [Xd];omega
theorem Zoy (l:List Zq):∀k,k<=l.length->ZcD (l.take k)<=(ZR l 0 k).length
 | 0,_=>by simp [ZcD]
 | k+1,hk=>by
   have ih:=Zoy l k (by omega);have h1:=ZuO l[k].2;rw [Zck (XX _),Zko (by omega),Xd,Zfc (by omega),Xd];omega
theorem ZzD (l:List Zq):ZcD l<=(SM.encS l).length:=by
 have:=Zoy l l.length (Xa _);rw [XB] at this;unfold SM.encS;simp only [Xd];omega
def ZlV (p:Zk):Nat:=50+10*p.2.length
def Zb7 (ps:List Zk):Nat:=(ps.map ZlV).sum
theorem Zf4 (p:Zk) (ps:List Zk):Zb7 (p::ps)=ZlV p+Zb7 ps:=by simp [Zb7]
theorem Zi3 (a b:List Zk):Zb7 (a++b)=Zb7 a+Zb7 b:=by simp [Zb7]
theorem Zso {a b:List Zk} (h:a.Perm b):Zb7 a=Zb7 b:=(h.map ZlV).sum_nat
theorem ZnN (i:Int):∀(T:List Trm),(∀t∈T,t.2≠[])->Zb7 ((T.map (fun t=>((t.1,(i,t.2)):Xu×Zk))).map (·.2))<=60*(Zaf T).length
 | [],_=>by simp [Zb7]
 | t::T,h=>by
   have h1:=ZnN i T fun u a=>h u (by simp [a]);have h2:=Xaa.2 (h t (by simp));rw [XC,XC,Zf4,places_cons];have e:ZlV (i,t.2)=50+10*t.2.length:=rfl;rw [e];omega
theorem Zhl:∀(es:List Ev) (i:Int),Zb7 ((Zai i (es.map Z1)).map (·.2))<=60*(es.map fun e=>Zap e.2).sum
 | [],i=>by simp [Zai,Zb7]
 | e::es,i=>by
   have h1:=Zhl es (i+1);have h2:=ZnN i (Z1 e) (ZhX e);have h3:=Znu e;have h4:=Zo0 e.2;rw [XC,Zai,XM,Zi3,XC,List.sum_cons];omega
theorem ZuW (ps:List Zk):50*ps.length<=Zb7 ps:=by
 induction ps with
 | nil=>simp [Zb7]
 | cons p ps ih=>rw [Zf4,Xh];unfold ZlV;omega
theorem Zs0 (es:List Ev):(Zai 0 (es.map Z1)).length<=2*(es.map fun e=>Zap e.2).sum:=by
 have h1:=Zhl es 0;have a:=ZuW ((Zai 0 (es.map Z1)).map (·.2));rw [XF] at a;omega
theorem ZkU {rows:List (Tr Zk)}:(rows.map fun r=>Zb7 r.2).sum=Zb7 (Zaf rows):=by
 induction rows with
 | nil=>rfl
 | cons r rows ih =>
   have e:Zaf (r::rows)=r.2++Zaf rows:=by simp [Zaf]
   rw [XC,List.sum_cons,ih,e,Zi3]
theorem ZiQ:∀ps:List Zk,40*ps.length+10*PM.ZaU ps+10*ps.length=Zb7 ps
 | []=>by simp [PM.ZaU,Zb7]
 | p::ps=>by
   have ih:=ZiQ ps;rw [PM.ZaU,Zf4,Xh];unfold ZlV;omega
theorem Zss {ps:List Zk} (h:ps≠[]):(PM.ZY ps).length<=Zb7 ps:=by
 have h0:=Xaa.2 h;have h1:=PM.Zeq ps 0;have h2:=PM.ZdE ps (PM.cnt ps.length) 0;have h3:=(Zc ps.length).2;have h4:=ZiQ ps;have h5:PM.cnt ps.length<=ps.length:=by unfold PM.cnt;omega
 unfold PM.ZY;simp only [Xd];omega
theorem Zjq:∀{rows:List (Tr Zk)},(∀r∈rows,r.2≠[])->(Zl rows).length<=(rows.map fun r=>Zb7 r.2).sum
 | [],_=>by simp [Zl]
 | r::rows,h=>by
   have h1:=Zjq (rows:=rows) fun u a=>h u (by simp [a]);have h2:=Zss (h r (by simp));have e:Zl (r::rows)=PM.ZY r.2++Zl rows:=by simp [Zl]
   rw [e,Xd,XC,List.sum_cons];omega
theorem ZiM (l:List Zq):Zb7 (Zaf (Zp l))<=60*ZcD l:=by
 have b:(Zaf (Zp l)).Perm (Zaf []++(Zai 0 ((evs l).map Z1)).map (·.2)):=ZeO _ [];rw [Zso b];have a:=Zhl (evs l) 0;have e:((evs l).map fun e=>Zap e.2).sum=ZcD l:=by unfold evs ZcD;rw [List.map_map];rfl
 rw [e] at a;simpa [Zaf] using a
theorem Zte (l:List Zq):(Zl (Zp l)).length<=60*ZcD l:=by
 have a:=Zjq (rows:=Zp l) (RM.Zm2 _);rw [ZkU] at a;exact Xy a (ZiM l)
theorem ZlW:∀{ps:List Zk},(∀p∈ps,p.2≠[])->60*ps.length<=Zb7 ps
 | [],_=>by simp
 | p::ps,h=>by
   have h1:=ZlW (ps:=ps) fun q a=>h q (by simp [a]);have h2:=Xaa.2 (h p (by simp));rw [Zf4,Xh];unfold ZlV;omega
theorem Ztd {l:List Zq} (h:isS l=true):(Zp l).length<=ZcD l:=by
 have h1:=Zmv (T:=Zp l) (RM.Zm2 _)
 have h2:=ZlW (ps:=Zaf (Zp l)) fun p a=>by
  obtain ⟨r,b,a⟩:=List.mem_flatMap.1 a;exact (((PM.Zpi _).1 (Zry h r b).1).2 p a).1
 have h3:=ZiM l;omega
theorem ZmC:∀{l:List Nat} {x:Nat},x∈l->x<=l.sum
 | y::l,x,h=>by
   rw [List.sum_cons];rcases XT.1 h with rfl|h
   ·omega
   ·have:=ZmC h;omega
theorem Zwb {l:List Zq} {r:Tr Zk} (h:r∈Zp l):Zb7 r.2<=60*ZcD l:=by
 refine Xy ?_ (ZiM l);rw [<- ZkU];exact ZmC (X4.2 ⟨r,h,rfl⟩)
theorem ZBO {l:List Zq} {r:Tr Zk} (h:r∈Zp l):r.2.length<=2*ZcD l/\PM.ZaU r.2<=6*ZcD l:=by
 have h1:=Zwb h;have h2:=ZiQ r.2;omega
theorem Zl2 (ahead:Xu) (x:ZN):(DM.Zea ahead x).length<=50+x.1.length:=by
 have b1:=(Zc (DM.ZL ahead x.1)).2;have b2:=(Zc (x.1.drop (DM.ZL ahead x.1)).length).2;have b3:=(Zc x.2.1.toNat).2;have b4:=(Zc x.2.2.1.toNat).2;have b5:=(Zc x.2.2.2.toNat).2;unfold DM.Zea Z5;simp only [Xd] at *;rw [Xp] at *;omega
theorem ZbM:∀(ahead:Xu) (l:List ZN),(∀x∈l,x.1.length<=65)->(DM.ZA ahead l).length<=115*l.length
 | _,[],_=>by simp [DM.ZA]
 | a,x::l,h=>by
   have h1:=ZbM x.1 l fun y b=>h y (by simp [b]);have h2:=Zl2 a x;have h3:=h x (by simp);rw [DM.ZA,Xd,Xh];omega
theorem Zip (l:List ZN) (h:∀x∈l,x.1.length<=65) (j:Nat):(DM.Zfr l j).length<=10+115*16:=by
 have h1:=ZbM [] (DM.Zw l j) fun x a=>h x (XaX (Xaq a));have h2:(DM.Zw l j).length<=16:=by unfold DM.Zw;rw [Xi];omega
 have h3:=(Zc (DM.ZA [] (DM.Zw l j)).length).2;unfold DM.Zfr;rw [Xd];omega
theorem Zga {α β:Type} {f:α->List β} {m:Nat}:∀{l:List α},(∀x∈l,(f x).length<=m)->(l.flatMap f).length<=m*l.length
 | [],_=>by simp
 | x::l,h=>by
   have h1:=Zga (l:=l) fun y a=>h y (by simp [a]);have h2:=h x (by simp);rw [XaP,Xd,Xh,Nat.mul_succ];omega
theorem Zsq {l:List ZN} (h:∀x∈l,x.1.length<=65):(ZbD l).length<=10+1850*((l.length+15) / 16):=by
 have a:=Zga (l:=List.range (DM.Zr l)) (f:=DM.Zfr l) (m:=1850) fun j _=>Zip l h j;have h2:=(Zc l.length).2;rw [List.length_range] at a;unfold ZbD DM.ZbP;rw [Xd,Xap];unfold DM.Zr at a ⊢;omega
theorem Zsw (l:List Zq):∀x∈ZS 0 (Zp l),x.1.length<=65:=fun x b=>by
 have a:x.1∈(ZS 0 (Zp l)).map (·.1):=X4.2 ⟨x,b,rfl⟩;rw [ZkF] at a;obtain ⟨r,c,e⟩:=X4.1 a;rw [<- e];exact (ZdJ c).2
theorem Zgy:∀(l:List Zq) (z:Int),(Z3 z l).length<=10*l.length
 | [],_=>by simp [Z3]
 | d::l,z=>by
   have h1:=Zgy l d.2.1;have h2:=(Zc (zig (IntKind.i64.wrap (d.2.1 - z)))).2;rw [Z3,Xd,Xh];unfold ZaV;omega
theorem Zvj (p:ZiU):(Zdo p).length<=50:=by
 have b1:=(Zc (zig p.1)).2;have b2:=(Zc (zig p.2.1)).2;have b3:=(Zc (zig p.2.2.1)).2;have b4:=(Zc (zig p.2.2.2.1)).2;have b5:=(Zc (zig (p.2.2.2.2:Int))).2;unfold Zdo ZaV;simp only [Xd];omega
def ZbV (l:List Zq):Prop:=isS l=true->(SM.encS l).length<=100000
structure Sized (l:List Zq):Prop where
 docs:l.length<=65536/\l.length<100000
 texts:ZcD l<=100000
 rows:(Zp l).length<=100000
 posts:(Zl (Zp l)).length<=6000000
 pairs:(Zai 0 ((evs l).map Z1)).length<=200000
 row:∀r∈Zp l,r.2.length<=65536/\PM.ZaU r.2<=600000/\r.1.length<=65/\isL r.2=true/\r.2≠[]
 are:ZbC (ZS 0 (Zp l))=true
 sects:∀s∈Zax l,s.length<=16777216 - 16
theorem sized {l:List Zq} (h:isS l=true) (hs:ZbV l):Sized l:=by
 have hM:=hs h;have h0:=Zl1 h;have h1:=ZzD l;have h2:=Ztd h;have h3:=Zte l;have g:=(Zcv.1 h).1;have e:((evs l).map fun e=>Zap e.2).sum=ZcD l:=by unfold evs ZcD;rw [List.map_map];rfl
 have i:=Zs0 (evs l);rw [e] at i;have d:=ZxQ h (by omega) (by omega);refine ⟨by omega,by omega,by omega,by omega,by omega,fun r b => ?_,d,fun s c => ?_⟩
 ·have f:=ZBO b;have a:=Zry h r b;exact ⟨Zd3 (by unfold evs;rw [XF];exact g) b,by omega,(ZdJ b).2,a.1,a.2⟩
 ·have f:=Zgy l 0;have a:=Zsq (Zsw l);rw [Zb1] at a;have h7:=Ze6 (Zp l);have h8:=(Zdf (Zp l).length).2;have h9:=Zvj (Zj l);unfold Zax at c;simp only [XT,Xbk,or_false] at c;rcases c with rfl|rfl|rfl|rfl|rfl|rfl
  ·omega
  ·omega
  ·omega
  ·omega
  ·omega
  ·omega
theorem Zl9 {l:List Zq} (h:isS l=true) (hs:ZbV l):Zl8 l=true:=by
 unfold Zl8;rw [List.all_eq_true];intro s a;have:=(sized h hs).sects s a;rw [Xg];omega
theorem Zdz {l:List Zq} (hs:ZbV l):ZeJ l=if isS l=true/\l≠[] then (ZaE l,0) else ([],130):=by
 unfold ZeJ
 by_cases h:isS l=true
 ·by_cases a:l=[]
  ·rw [Xe (.inr a),Xc (fun h=>h.2 a)]
  ·have b:=sized h hs;have h1:=b.rows;have h2:=b.posts;rw [Xc (by simp [h,a]),Xc,Xe ⟨h,a⟩];rw [Zl9 h hs];rintro (h|h|h)
   ·omega
   ·omega
   ·cases h
 ·rw [Xe (.inl (by simpa using h)),Xc (fun k=>h k.1)]
end GM
namespace EV
open RowKit MM EM
variable {S:Nat->Prop} {w:World} {B:Nat} {v:Value}
theorem Zvw:Elem Zbk prog 69 3 8:=⟨underlying69,by
 have h:(prog.info? 3).map (fun i=>(i.zero,i.size,i.bytes))=some (some (.int .i64 0),1,8):=by kernel_rfl
 obtain ⟨i,a,d,c,b⟩:=info_parts h;exact ⟨i,_,a,d,c,b,rfl⟩⟩
def ZbK (w:World) (b:Nat):Prop:=∃a fr,w.heap[b]? = some (.cells a 3 fr)
def Zcq:Codec Trm:=ZeH Zio (Zfq Zbk)
theorem ZpK {c:List Value} {t:Trm}:Zcq.on S w c t↔∃v,c=[.string ⟨t.1.toArray⟩,v]/\ZB Zbk S w v t.2:=by
 constructor
 ·rintro ⟨x,y,rfl,a,v,d,b⟩;have a:x=[.string ⟨t.1.toArray⟩]:=a;exact ⟨v,by rw [a,d];rfl,b⟩
 ·rintro ⟨v,rfl,b⟩;exact ⟨[_],[v],rfl,rfl,v,rfl,b⟩
theorem ZgR {α:Type}:∀(l:List (EM.Tr α)) (s:Xu) (p:α),(Zak l s p).length<=l.length+1
 | [],s,p=>by simp [Zak]
 | t::r,s,p=>by
   have ih:=ZgR r s p;rw [Zak]
   split
   ·simp only [Xh];omega
   ·split<;>simp
theorem Zyn (w:World) (a:List Int) (c:a.length<=maxLen):ZF Zbk (w.alloc (.cells (a.map fun z=>Value.int .i64 z).toArray 3)) (.slice (some ⟨w.heap.size,0,none⟩) a.length a.length) a:=by
 have:=ZhS (C:=Zbk) (S:=fun _=>True) (e:=3) w (a.map fun z=>[.int .i64 z]) a c ⟨by simp,fun i hi b=>by rw [Xax];rfl⟩;rw [Zc8] at this;exact this.any
theorem Znh {p:Option Addr} {n e:Nat} {c:List Trm} (h:ZB Zcq S w (.slice p n e) c) {k:Nat} (g:k<c.length) :
  ∃b off v,p=some ⟨b,off,none⟩/\b<w.heap.size/\S b/\w.cell? ⟨b,off+k*2,none⟩=some (.string ⟨c[k].1.toArray⟩)/\w.cell? ⟨b,off+k*2+1,none⟩=some v/\ZB Zbk S w v c[k].2:=by
 obtain ⟨b,off,vs,l,d,j,a,f⟩:=h.at_ g;rw [ZpK] at a;obtain ⟨v,rfl,i⟩:=a;exact ⟨b,off,v,l,d,j,f 0 _ rfl,f 1 _ rfl,i⟩
def ZiX (B:Nat) (w:World) (v:Value) (T:List Trm):Prop:=ZB Zcq (fun b=>B<=b) w v T
theorem ZiX.below {w':World} {T:List Trm} (h:ZiX B w v T) (a:Below w.heap.size w w'):ZiX B w' v T:=ZB.keep h (Za _ a) fun _ _ h=>h
theorem ZiX.of {a:World} {T:List Trm} (c:B<=a.heap.size) (h:ZB Zcq (fun b=>B<=b\/a.heap.size<=b) w v T):ZiX B w v T:=ZB.weak h fun b _ d=>d.elim id fun h=>Xy c h
def ZpU (T:List Trm) (w:World) (e:Ending) (w':World):Prop:=∃u,e=.returned u/\ZiX w.heap.size w' u T/\Below w.heap.size w w'
end EV
namespace MM
open RowKit
variable {S:Nat->Prop} {e:TypeId} {w':World} {g i k:Nat}
def ZDc:Codec Value where
 size:=1
 on:=fun _ _ vs u=>vs=[u]/\u.oneCell'=true
 pos:=by decide
 len:=fun h=>by rw [h.1];rfl
 keep:=fun h _ _=>h
 one:=fun h u a=>by rw [h.1] at a;simp at a;rw [a];exact h.2
abbrev ZgO:=Xu×Value
def Zki:Codec ZgO:=ZeH Zio ZDc
theorem Zgq {w:World} {vs:List Value} {p:ZgO}:Zki.on S w vs p↔vs=[.string ⟨p.1.toArray⟩,p.2]/\p.2.oneCell'=true:=by
 constructor
 ·rintro ⟨x,y,h,a,c,b⟩;have a:x=[.string ⟨p.1.toArray⟩]:=a;exact ⟨by rw [h,a,c];rfl,b⟩
 ·rintro ⟨h,a⟩;exact ⟨[.string ⟨p.1.toArray⟩],[p.2],h,rfl,rfl,a⟩
theorem ZCc {B:Nat} {w:World} {v:Value} {ps:List ZgO} (h:ZC Zki e B (fun _=>False) w v ps):ZbB Zki e B w v ps:=by
 obtain ⟨a,b,c⟩:=h;exact ⟨a,b,c.keep (Kep.refl _ _) fun _ _ h=>h.elim⟩
theorem ZC5 {B:Nat} {w:World} {v:Value} {ps:List ZgO} (h:ZbB Zki e B w v ps):ZC Zki e B (fun _=>False) w v ps:=by
 obtain ⟨a,d,c⟩:=h;exact ⟨a,d,c.1,fun i hi b=>Zgq.2 (Zgq.1 (c.2 i hi b))⟩
theorem Zq5 {α:Type} {C:Codec α} {A B:Nat} {w:World} {v:Value} {es:List α} (h:ZC C e A S w v es) (j:B<=A):ZC C e B S w v es:=by
 obtain ⟨c,d,f⟩:=h;refine ⟨c,⟨d.1,?_⟩,f⟩;rcases d.2 with h|⟨g,b,a,m,l,rest⟩
 ·exact .inl h
 ·exact .inr ⟨g,b,a,m,Xy j l,rest⟩
def ZdR (v:Value) (us:List Value) (b:Nat):Prop:=v.ownBlock≠some b/\∀u∈us,u.ownBlock≠some b
variable {α : Type} {D : Codec α} {e1 e2 : TypeId} {B : Nat}
structure RowsAt (D:Codec α) (e1 e2:TypeId) (B:Nat) (w:World) (v:Value) (us:List Value) (rows:List (Xu×List α)):Prop where
 len:us.length=rows.length
 outer:ZC Zki e1 B (fun _=>False) w v (List.zip (rows.map (·.1)) us)
 inner:∀i (h:i<us.length) (h':i<rows.length),ZC D e2 B (ZdR v us) w us[i] rows[i].2
 apart:∀i j (h:i<us.length) (h':j<us.length) g,us[i].ownBlock=some g->us[j].ownBlock=some g->i=j
theorem RowsAt.nil_ (w:World):RowsAt D e1 e2 B w (.slice none 0 0) [] []:=⟨rfl,ZC.nil_ _ _ _ _,fun i h=>absurd h (by simp),fun i j h=>absurd h (by simp)⟩
variable {w : World} {v : Value} {us : List Value} {rows : List (Xu × List α)}
theorem RowsAt.kep (h:RowsAt D e1 e2 B w v us rows) (b:Kep (fun _=>True) w w'):RowsAt D e1 e2 B w' v us rows :=
 ⟨h.len,h.outer.keep b (fun _ _ _=>trivial) (fun _ _=>trivial),fun i hi a=>(h.inner i hi a).keep b (fun _ _ _=>trivial) (fun _ _=>trivial),h.apart⟩
theorem RowsAt.below (h:RowsAt D e1 e2 B w v us rows) (a:Below w.heap.size w w'):RowsAt D e1 e2 B w' v us rows:=h.kep (Za _ a)
theorem RowsAt.zlen (h:RowsAt D e1 e2 B w v us rows):(List.zip (rows.map (·.1)) us).length=rows.length:=by rw [List.length_zip,XF,h.len,Nat.min_self]
theorem RowsAt.shape (h:RowsAt D e1 e2 B w v us rows):∃p a,v=.slice p rows.length a/\rows.length<=a/\a<=maxLen/\(p=none->a=0):=by
 have:=h.outer.any.shape;rw [h.zlen] at this;exact this
theorem RowsAt.olt (h:RowsAt D e1 e2 B w v us rows) (a:v.ownBlock=some g):B<=g/\g<w.heap.size:=⟨(h.outer.cells a).1,(h.outer.cells a).2.1⟩
theorem RowsAt.ilt (h:RowsAt D e1 e2 B w v us rows) (hi:i<us.length) (a:us[i].ownBlock=some g):B<=g/\g<w.heap.size :=
 have:=(h.inner i hi (by rw [<- h.len];exact hi)).cells a;⟨this.1,this.2.1⟩
theorem RowsAt.z (h:RowsAt D e1 e2 B w v us rows) (b:e1≠e2) (hi:i<us.length) (f:us[i].ownBlock=some g):v.ownBlock≠some g:=fun c=>by
 obtain ⟨_,_,c1,f1,d⟩:=h.outer.cells c;obtain ⟨_,_,c2,f2,a⟩:=(h.inner i hi (by rw [<- h.len];exact hi)).cells f;rw [d] at a;simp only [Xx,Obj.cells.injEq] at a;exact b a.2.1
theorem RowsAt.at_ (h:RowsAt D e1 e2 B w v us rows) (hk:k<us.length) (m:k<rows.length):∃g c,v=.slice (some ⟨g,0,none⟩) rows.length c/\g<w.heap.size/\B<=g /\
  w.cell? ⟨g,k*2,none⟩=some (.string ⟨rows[k].1.toArray⟩)/\w.cell? ⟨g,k*2+1,none⟩=some us[k]/\(∀j,w.frozen? ⟨g,j,none⟩=false):=by
 have f:=h.zlen;have d:k<(List.zip (rows.map (·.1)) us).length:=by rw [f];exact m
 have o:=ZCc h.outer;obtain ⟨p,c,hv,u,_,hp⟩:=h.shape;have s:=h.outer;obtain ⟨z,l,_⟩:=s;rcases l.2 with ⟨_,y⟩|⟨g,cap',r,b,x,t,_⟩
 ·rw [f] at y;omega
 ·rw [f] at b;rw [b] at o;obtain ⟨vs,n,q,hf,_⟩:=o.elem d;have a:=(Zgq.1 n).1;simp only [List.getElem_zip,Xax] at a;refine ⟨g,cap',b,(Xq.1 t).1,x,?_,?_,hf⟩
  ·have:=q 0 _ (by rw [a];rfl);exact this
  ·exact q 1 _ (by rw [a];rfl)
theorem Zuy {β γ:Type}:∀(a:List β) (b:List γ) (k:Nat) (u:γ) (c:k<a.length) (d:a.length=b.length),List.zip a (b.set k u)=(List.zip a b).set k (a[k],u)
 | x::a,y::b,0,u,_,_=>rfl
 | x::a,y::b,k+1,u,c,d=>by
   rw [Xl,List.zip_cons_cons,List.zip_cons_cons,Xl,Zuy a b k u (by simpa using c) (by simpa using d)];rfl
theorem RowsAt.hit (J:e1≠e2) (h:RowsAt D e1 e2 B w v us rows) (x:k<us.length) (F:k<rows.length) {u':Value} {es:List α} (W:ZC D e2 B (fun b=>b<w.heap.size/\ZdR v us b) w' u' es)
  (E:Kep (fun b=>us[k].ownBlock≠some b) w w') (m:∀g,u'.ownBlock=some g->us[k].ownBlock=some g\/w.heap.size<=g) {g n R:Nat} (M:v=.slice (some ⟨g,0,none⟩) n R) :
  RowsAt D e1 e2 B (w'.setCell ⟨g,k*2+1,none⟩ u') v (us.set k u') (rows.set k (rows[k].1,es)):=by
 have o:v.ownBlock=some g:=by rw [M];rfl
 have U:u'.ownBlock≠some g:=fun e=>by
  rcases m g e with f|f
  ·exact h.z J x f o
  ·have:=(h.olt o).2;omega
 have C:Kep (fun b=>b≠g) w' (w'.setCell ⟨g,k*2+1,none⟩ u'):=Zy (fun h=>h rfl) u';have A:=W.any.oneCell
 have s:∀b,(b<w.heap.size/\ZdR v us b)->ZdR v (us.set k u') b:=fun b ⟨l,hf⟩=>⟨hf.1,fun u T e=>by
  rcases List.mem_or_eq_of_mem_set T with T|rfl
  ·exact hf.2 u T e
  ·rcases m b e with f|f
   ·exact hf.2 _ (XI x) f
   ·omega⟩
 have r:∀{u:Value} {Y:List α},ZC D e2 B (fun b=>b<w.heap.size/\ZdR v us b) w' u Y->u.ownBlock≠some g->ZC D e2 B (ZdR v (us.set k u')) (w'.setCell ⟨g,k*2+1,none⟩ u') u Y:=fun f L =>
  ZC.weak (f.keep C (fun b _ l e=>l.2.1 (by rw [e];exact o)) (fun b l e=>L (by rw [<- e];exact l))) fun b _ l=>s b l
 have q:ZC Zki e1 B (fun _=>False) w' v (List.zip (rows.map (·.1)) us):=h.outer.keep E (fun _ _ h=>h.elim) fun g' O=>fun e=>h.z J x e O;refine ⟨by rw [Xav,Xav];exact h.len,?_,fun i hi t => ?_,fun i j hi G b c a => ?_⟩
 ·have Z:k<(List.zip (rows.map (·.1)) us).length:=by rw [h.zlen];exact F
  have X:=ZCc q;rw [M] at X;obtain ⟨vs,V,_,_,N⟩:=X.elem Z;have I:=(Zgq.1 V).1;have y:=N 1 u' (rows[k].1,u') (by show 1<2;omega) (Zgq.2 ⟨by rw [I];simp,A⟩)
  have H:List.zip ((rows.set k (rows[k].1,es)).map (·.1)) (us.set k u')=(List.zip (rows.map (·.1)) us).set k (rows[k].1,u'):=by
   rw [List.map_set]
   have:(rows.map (·.1)).set k rows[k].1=rows.map (·.1):=by
    apply List.ext_getElem (by simp);intro i hi t;rw [List.getElem_set]
    split
    ·rename_i d;subst d;simp
    ·rfl
   rw [this,Zuy _ _ _ _ (by simpa using F) (by rw [XF,h.len])];simp
  rw [H,M];exact ZC5 y
 ·rw [Xav] at hi t
  by_cases d:k=i
  ·subst d;simp only [Xbq];exact r W U
  ·rw [Xa2 d,Xa2 d];exact r ((ZC.weak (h.inner i hi t) fun b l hf=>⟨l,hf⟩).keep E (fun b _ hf=>hf.2.2 _ (XI x)) (fun b l e=>d (h.apart k i x hi b e l))) (fun e=>h.z J hi e o)
 ·rw [Xav] at hi G
  by_cases z:k=i
  ·by_cases p:k=j
   ·omega
   ·subst z;rw [Xbq] at c;rw [Xa2 p] at a;rcases m b c with f|f
    ·exact h.apart k j x G b f a
    ·have:=(h.ilt G a).2;omega
  ·rw [Xa2 z] at c
   by_cases p:k=j
   ·subst p;rw [Xbq] at a;rcases m b a with f|f
    ·exact h.apart i k hi x b c f
    ·have:=(h.ilt hi c).2;omega
   ·rw [Xa2 p] at a;exact h.apart i j hi G b c a
theorem RowsAt.ins (h:RowsAt D e1 e2 B w v us rows) (O:k<=rows.length) (H:B<=w.heap.size) {v' u:Value} {s:Xu} {es:List α}
  (G:ZC Zki e1 w.heap.size (fun _=>False) w' v' ((List.zip (rows.map (·.1)) us).take k++[(s,u)]++(List.zip (rows.map (·.1)) us).drop k))
  (E:ZC D e2 w.heap.size (fun b=>b<w.heap.size/\ZdR v us b) w' u es) (r:Below w.heap.size w w') :
  RowsAt D e1 e2 B w' v' (us.take k++u::us.drop k) (rows.take k++(s,es)::rows.drop k):=by
 have hl:=h.len;have C:k<=us.length:=by omega
 have o:∀b,(b<w.heap.size/\ZdR v us b)->ZdR v' (us.take k++u::us.drop k) b:=fun b ⟨L,hf⟩=>⟨fun e=>by have:=(G.cells e).1;omega,fun x y e=>by
  rcases Xam.1 y with y|y
  ·exact hf.2 x (Xaq y) e
  ·rcases XT.1 y with rfl|y
   ·have:=(E.cells e).1;omega
   ·exact hf.2 x (XaX y) e⟩
 have q:∀i (hi:i<us.length) (p:i<rows.length),ZC D e2 B (ZdR v' (us.take k++u::us.drop k)) w' us[i] rows[i].2:=fun i hi p =>
  ZC.weak (ZC.keep (T:=fun _=>True) (ZC.weak (h.inner i hi p) fun b r hf=>⟨r,hf⟩) (Za _ r) (fun _ _ _=>trivial) (fun _ _=>trivial)) fun b _ r=>o b r
 have F:∀i (hi:i<(us.take k++u::us.drop k).length),(i<k/\∃h:i<us.length,(us.take k++u::us.drop k)[i]=us[i])\/(i=k/\(us.take k++u::us.drop k)[i]=u)\/(k<i/\∃h:i - 1<us.length,(us.take k++u::us.drop k)[i]=us[i - 1]):=fun i hi=>by
  have t:=hi;simp only [Xd,Xi,Xh,Xp] at t;rcases Nat.lt_trichotomy i k with a|a|a
  ·left;refine ⟨a,by omega,?_⟩;rw [Xa9 (by rw [Xi];omega),Xbb]
  ·right;left;subst a;refine ⟨rfl,?_⟩;rw [Xba (by rw [Xi];omega)];simp [Xi,Xan C]
  ·right;right;refine ⟨a,by omega,?_⟩;rw [Xba (by rw [Xi];omega)];have e:i - (us.take k).length=(i - 1 - k)+1:=by rw [Xi];omega
   simp only [e,Xby,Xa0];congr 1
   omega
 refine ⟨by simp only [Xd,Xi,Xh,Xp];omega,?_,fun i hi p => ?_,fun i j hi J b c d => ?_⟩
 ·have e:List.zip ((rows.take k++(s,es)::rows.drop k).map (·.1)) (us.take k++u::us.drop k)=(List.zip (rows.map (·.1)) us).take k++[(s,u)]++(List.zip (rows.map (·.1)) us).drop k:=by
   rw [XM,XC,List.zip_append (by simp;omega),List.zip_cons_cons,List.map_take,List.map_drop,Xk];simp only [List.zip,List.take_zipWith,List.drop_zipWith,Xa8]
  rw [e];exact Zq5 G H
 ·have I:∀i (hi:i<(rows.take k++(s,es)::rows.drop k).length),(i<k->∃h:i<rows.length,(rows.take k++(s,es)::rows.drop k)[i]=rows[i])/\(i=k->(rows.take k++(s,es)::rows.drop k)[i]=(s,es))/\(k<i->∃h:i - 1<rows.length,(rows.take k++(s,es)::rows.drop k)[i]=rows[i - 1]):=fun i hi=>by
   have t:=hi;simp only [Xd,Xi,Xh,Xp] at t;refine ⟨fun a=>⟨by omega,?_⟩,fun a => ?_,fun a=>⟨by omega,?_⟩⟩
   ·rw [Xa9 (by rw [Xi];omega),Xbb]
   ·subst a;rw [Xba (by rw [Xi];omega)];simp [Xi,Xan O]
   ·rw [Xba (by rw [Xi];omega)];have e:i - (rows.take k).length=(i - 1 - k)+1:=by rw [Xi];omega
    simp only [e,Xby,Xa0];congr 1
    omega
  obtain ⟨N,M,R⟩:=I i p;rcases F i hi with ⟨a,m,e⟩|⟨a,e⟩|⟨a,m,e⟩
  ·obtain ⟨n,z⟩:=N a;rw [e,z];exact q i m n
  ·rw [e,M a];exact ZC.weak (Zq5 E H) fun b _ r=>o b r
  ·obtain ⟨n,z⟩:=R a;rw [e,z];exact q (i - 1) m n
 ·have l:∀{i} (hi:i<us.length),us[i].ownBlock=some b->u.ownBlock=some b->False:=fun hi m n=>by
   have:=(h.ilt hi m).2;have:=(E.cells n).1;omega
  rcases F i hi with ⟨a,m,e⟩|⟨a,e⟩|⟨a,m,e⟩<;>rcases F j J with ⟨A,n,f⟩|⟨A,f⟩|⟨A,n,f⟩<;>rw [e] at c<;>rw [f] at d
  ·exact h.apart i j m n b c d
  ·exact (l m c d).elim
  ·have:=h.apart i (j - 1) m n b c d;omega
  ·exact (l n d c).elim
  ·omega
  ·exact (l n d c).elim
  ·have:=h.apart (i - 1) j m n b c d;omega
  ·exact (l m c d).elim
  ·have:=h.apart (i - 1) (j - 1) m n b c d;omega
theorem RowsAt.any (h:RowsAt D e1 e2 B w v us rows):ZF (ZeH Zio (Zfq D)) w v rows:=by
 obtain ⟨p,d,j,m,l,q,o,f,a⟩:=h.outer.any;rw [h.zlen] at m l;refine ⟨p,d,j,m,l,q,o,⟨by rw [f.1,h.zlen],fun i hi b => ?_⟩,?_⟩
 ·have n:i<(List.zip (rows.map (·.1)) us).length:=by rw [<- f.1];exact hi
  have c:i<us.length:=by rw [h.len];exact b
  have:=Zgq.1 (f.2 i hi n);simp only [List.getElem_zip,Xax] at this;exact ⟨[.string ⟨rows[i].1.toArray⟩],[us[i]],this.1,rfl,us[i],rfl,(h.inner i c b).any⟩
 ·rcases a with a|a
  ·left;have:=h.zlen;rw [a] at this;exact XP this.symm
  ·exact .inr a
end MM
namespace SG
open RowKit MM
open EM (Zg Zan)
variable {S:Nat->Prop} {w:World}
def Zdp:Codec (Int×List Int):=ZeH Zbk (Zfq Zbk)
abbrev ZgP:=Xu×List (Int×List Int)
def Zpz:Codec ZgP:=ZeH Zio (Zfq Zdp)
theorem ZCO {c:List Value} {r:ZgP}:Zpz.on S w c r↔∃v,c=[.string ⟨r.1.toArray⟩,v]/\ZB Zdp S w v r.2:=by
 constructor
 ·rintro ⟨x,y,rfl,a,v,d,b⟩;have a:x=[.string ⟨r.1.toArray⟩]:=a;exact ⟨v,by rw [a,d];rfl,b⟩
 ·rintro ⟨v,rfl,b⟩;exact ⟨[_],[v],rfl,rfl,v,rfl,b⟩
theorem Zm1 {p:Option Addr} {n d:Nat} {rs:List ZgP} (h:ZB Zpz S w (.slice p n d) rs) {k:Nat} (f:k<rs.length) :
  ∃b off v,p=some ⟨b,off,none⟩/\b<w.heap.size/\S b/\w.cell? ⟨b,off+k*2,none⟩=some (.string ⟨rs[k].1.toArray⟩)/\w.cell? ⟨b,off+k*2+1,none⟩=some v/\ZB Zdp S w v rs[k].2:=by
 obtain ⟨b,off,vs,j,c,i,a,e⟩:=h.at_ f;rw [ZCO] at a;obtain ⟨v,rfl,g⟩:=a;exact ⟨b,off,v,j,c,i,e 0 _ rfl,e 1 _ rfl,g⟩
end SG
namespace SG
open RowKit MM
open EM (Zg Zan)
def ZtL (rs:List ZgP) (s:Xu) (k:Nat):Prop:=k<=rs.length/\(∀j (hj:j<rs.length),j<k->Zg rs[j].1 s=true)/\∀hk:k<rs.length,Zg rs[k].1 s=false
theorem ZdK (v:Value) (rs:List ZgP) (s:Xu) (w:World) (n:ZF Zpz w v rs) :
  Calls prog 59 #[v,.string ⟨s.toArray⟩] w fun e w'=>(∃k:Nat,e=.returned (.int .i64 k)/\ZtL rs s k)/\Below w.heap.size w w':=by
 obtain ⟨p,F,rfl,z,o,_⟩:=n.shape;unfold maxLen at o;have C:=Y4 n;have r:Y5 (∀j (c:j<rs.length),j<0->Zg rs[j].1 s=true):=Y4 fun j c h=>absurd h (by omega);clear n;go_enter func59,ntmps59;go_wp2_with fail
 go_loopw [5] (fun i wr=>∃k:Nat,k<=rs.length/\i=.int .i64 k/\Y5 (∀j (c:j<rs.length),j<k->Zg rs[j].1 s=true)/\Y5 (Below w.heap.size w wr)) (fun i _=>rs.length - (intOf i).toNat)
 case atStart=>exact ⟨0,by omega,rfl,r,Y4 (Below.refl _ _)⟩
 case round =>
  obtain ⟨k,D,rfl,g,f⟩:=hrel;clear r
  by_cases a:k<rs.length
  ·have A:decide ((k:Int)<(rs.length:Int))=true:=Xt;have x:decide (k<rs.length)=true:=Xs a;have q3:(k:Int)<(rs.length:Int):=by omega
   obtain ⟨b,off,v,rfl,G,_,c1,c2,y⟩:=Zm1 (C.z.below f.z) a;obtain ⟨t,l⟩:=Xn (rs[k]);rw [l] at c1;have d:=Zan t.1 s;have u:Y5 (∀c:k<rs.length,rs[k]=t):=Y4 fun _=>l;have q:=Y4 a;clear l y;cases hless:Zg t.1 s with
   | true =>
     rw [hless] at d
     have m:Y5 (∀j (c:j<rs.length),j<k+1->Zg rs[j].1 s=true):=Y4 fun j c E=>by
      by_cases e:j=k
      ·subst e;rw [u.z c];exact hless
      ·exact g.z j c (by omega)
     clear g hless a;go_wp2_with fail;have a:=q.z;go_roundw
     case rel=>exact ⟨k+1,by omega,by go_num,m,f⟩
     case measure=>simp [intOf];omega
   | false =>
     rw [hless] at d;have B:=Y4 hless;clear hless a;go_wp2_with fail;go_ret;exact ⟨⟨k,rfl,D,g.z,fun c=>by rw [u.z c];exact B.z⟩,f.z⟩
  ·obtain rfl:k=rs.length:=by omega
   have A:decide ((rs.length:Int)<(rs.length:Int))=false:=by simp
   have x:decide (rs.length<rs.length)=false:=by simp
   clear a;go_wp2_with fail;go_ret;exact ⟨⟨rs.length,rfl,Xa _,g.z,fun c=>absurd c (by omega)⟩,f.z⟩
end SG
namespace DT
open RowKit MM DM
open EM (Zg)
variable {S:Nat->Prop} {w:World}
def Zbr:Codec ZN:=ZeH Zio (ZeH Zbk (ZeH Zbk Zbk))
theorem Zl4:Zbr.size=4:=rfl
def Zl3 (x:ZN):Value:=.agg #[.string ⟨x.1.toArray⟩,.int .i64 x.2.1,.int .i64 x.2.2.1,.int .i64 x.2.2.2]
theorem Zf7 {j:List Value} {x:ZN}:Zbr.on S w j x↔j=[.string ⟨x.1.toArray⟩,.int .i64 x.2.1,.int .i64 x.2.2.1,.int .i64 x.2.2.2]:=by
 constructor
 ·rintro ⟨a,b,rfl,i,c,d,rfl,g,e,f,rfl,h,hf⟩;have i:a=[.string ⟨x.1.toArray⟩]:=i;have g:c=[.int .i64 x.2.1]:=g;have h:e=[.int .i64 x.2.2.1]:=h;have hf:f=[.int .i64 x.2.2.2]:=hf;rw [i,g,h,hf];rfl
 ·rintro rfl;exact ⟨[_],[_,_,_],rfl,rfl,[_],[_,_],rfl,rfl,[_],[_],rfl,rfl,rfl⟩
theorem ZcU {p:Option Addr} {n e:Nat} {l:List ZN} (h:ZB Zbr S w (.slice p n e) l) {k:Nat} (f:k<l.length) :
  ∃b off,p=some ⟨b,off,none⟩/\b<w.heap.size/\S b/\w.cell? ⟨b,off+k*4,none⟩=some (.string ⟨l[k].1.toArray⟩)/\w.cell? ⟨b,off+k*4+1,none⟩=some (.int .i64 l[k].2.1) /\
    w.cell? ⟨b,off+k*4+2,none⟩=some (.int .i64 l[k].2.2.1)/\w.cell? ⟨b,off+k*4+3,none⟩=some (.int .i64 l[k].2.2.2):=by
 obtain ⟨b,off,vs,i,d,g,a,c⟩:=h.at_ f;rw [Zf7] at a;subst a;exact ⟨b,off,i,d,g,c 0 _ rfl,c 1 _ rfl,c 2 _ rfl,c 3 _ rfl⟩
theorem ZcO (l:Xu):(⟨l.toArray⟩:ByteArray).data.toList=l:=by simp
theorem ZaX (l:Xu):(⟨l.toArray⟩:ByteArray).size=l.length:=by rw [Lib.size_eq]
def Znq:ZN:=([],0,0,0)
def ZfH (l:List ZN) (t:Xu):Option ZN:=l.find? fun x=>decide (x.1=t)
def Zyc (p:Xu) (x:ZN):Bool:=decide (p.length<=x.1.length)&&decide (x.1.take p.length=p)
def Zh9 (l:List ZN) (p:Xu):List ZN:=l.filter (Zyc p)
def ZcC (l:List ZN) (t:Xu):Nat:=(l.filter fun x=>Zg x.1 t).length
theorem Zn8 (l:List ZN) (t:Xu):ZcC l t<=l.length:=Xbs _ _
end DT
namespace MM
open RowKit
variable {s:ByteArray} {l:Xu}
theorem Zgx (a:s.data.toList=l) {i:Nat} {c:UInt8} (hi:l[i]? = some c) (W:World):(Instr.index 9 (.string s) (.int .i64 (i:Int))).run prog W=.ok (.int .u8 (c.toNat:Int)) W:=by
 obtain ⟨d,b⟩:=Xak.1 hi;have f:s.size=l.length:=by rw [Lib.size_eq,a]
 rw [run_index_string W 9 s .i64 i underlying9,dif_pos ⟨by omega,by omega⟩];subst a
 have e:(s[(i:Int).toNat]'(by omega))=c:=by
  rw [<- b];simp only [XY];rfl
 rw [e]
theorem Zc5 (a:s.data.toList=l):s.size=l.length:=by rw [Lib.size_eq,a]
theorem ZcT {w wr:World} (h:∃m,wr=w.drewN m) (n:Nat):∃m,wr.drewN n=w.drewN m:=by
 obtain ⟨m,rfl⟩:=h;exact ⟨m+n,World.drewN_drewN _ _ _⟩
theorem ZhY (l:Xu) (a b:Nat):(⟨l.toArray⟩:ByteArray).extract a b=⟨((l.drop a).take (b - a)).toArray⟩:=by
 apply ByteArray.ext;rw [ByteArray.data_extract];apply Array.toList_inj.1;simp [List.extract_eq_take_drop]
theorem ZrO (l:Xu) (a b:Nat):((⟨l.toArray⟩:ByteArray).extract a b).toList=(l.drop a).take (b - a):=by rw [ZhY,Lib.toList_data]
end MM
namespace DT
open RowKit MM DM
open EM (Zg Zan)
theorem ZdK (z:Int) (w:World):Calls prog 147 #[.int .i64 z] w fun e w'=>e=.returned (.bool (Zcx z))/\w'=w:=by
 unfold Zcx
 by_cases h:0<=z
 ·have a:decide (0<=z)=true:=by simpa using h
  have c:decide (z>=0)=true:=a
  by_cases b:z<=67108864
  ·have t3:decide (z<=67108864)=true:=by simpa using b
   rw [a,t3];clear h b;go_enter func147,ntmps147;go_wp2_with fail;go_ret;exact ⟨rfl,rfl⟩
  ·have t3:decide (z<=67108864)=false:=by simpa using b
   rw [a,t3];clear h b;go_enter func147,ntmps147;go_wp2_with fail;go_ret;exact ⟨rfl,rfl⟩
 ·have a:decide (0<=z)=false:=by simpa using h
  have c:decide (z>=0)=false:=a;rw [a,Xab];clear h;go_enter func147,ntmps147;go_wp2_with fail;go_ret;exact ⟨rfl,rfl⟩
theorem ZlE {a b:Xu} {k:Nat} {x:UInt8} (h:∀i,i<k->a[i]? = b[i]?) (c:a[k]? = some x) (d:b[k]? = some x):∀i,i<k+1->a[i]? = b[i]? := fun i hi=>by
 by_cases e:i=k
 ·rw [e,c,d]
 ·exact h i (by omega)
theorem ZrA (a b:Xu) (w:World) (ha:a.length<=1000000000000) (hb:b.length<=1000000000000):Calls prog 148 #[.string ⟨a.toArray⟩,.string ⟨b.toArray⟩] w fun e w'=>e=.returned (.int .i64 (ZL a b:Int))/\∃m,w'=w.drewN m:=by
 obtain ⟨s,hs⟩:∃s:ByteArray,(⟨a.toArray⟩:ByteArray)=s:=⟨_,rfl⟩;obtain ⟨t,G⟩:∃s:ByteArray,(⟨b.toArray⟩:ByteArray)=s:=⟨_,rfl⟩;have r:s.data.toList=a:=by rw [<- hs]
 have q:t.data.toList=b:=by rw [<- G]
 rw [hs,G];have d:=Y4 (fun k=>@ZiN a b k);obtain ⟨N,n⟩:=Xn (ZL a b);rw [n] at d ⊢;have O:=Y4 r;have X:=Y4 q;have J:=Y4 (Zc5 r);have H:=Y4 (Zc5 q);clear hs G r q n;go_enter func148,ntmps148;go_wp2_with fail
 go_loopw [5] (fun F wr=>∃i:Nat,i<=a.length/\i<=b.length/\F=.int .i64 i/\Y5 (∀j,j<i->a[j]? = b[j]?)/\Y5 (∃m,wr=w.drewN m)) (fun F _=>a.length - (intOf F).toNat)
 case atStart=>exact ⟨0,by omega,by omega,rfl,Y4 (fun j h=>by omega),Y4 ⟨0,rfl⟩⟩
 case round =>
  obtain ⟨i,v,p,rfl,o,B⟩:=hrel;have C:=J.z;have E:=H.z
  by_cases u:i<a.length
  ·have S:decide ((i:Int)<(s.size:Int))=true:=Xt;have M:decide (i<s.size)=true:=Xt
   by_cases z:i<b.length
   ·have W:decide ((i:Int)<(t.size:Int))=true:=Xt;have R:decide (i<t.size)=true:=Xt;obtain ⟨D,f⟩:∃c,a[i]? = some c:=⟨a[i],XZ u⟩;obtain ⟨I,g⟩:∃c,b[i]? = some c:=⟨b[i],XZ z⟩;have T:=Zgx O.z f;have L:=Zgx X.z g
    by_cases l:D=I
    ·subst l;have V:=Y4 (ZlE o.z f g);have U:=Y4 (And.intro u z);generalize D.toNat=x at *;clear o C E u z f g;go_wp2_with fail;go_quiet (fail)
     go_wp2_with fail;have hh:=U.z;go_roundw
     case rel=>exact ⟨i+1,by omega,by omega,by go_num,V,Y4 (ZcT B.z _)⟩
     case measure=>simp [intOf];omega
    ·have A:=d.z i v p o.z (fun _ _ e=>l (by rw [f,g] at e;exact XW e));have q5:((D.toNat:Int) == (I.toNat:Int))=false:=by rw [X6];exact fun e=>l (XaT.1 (by omega))
     subst A;generalize D.toNat=x at *;generalize I.toNat=y at *;clear o C E u z l f g;go_wp2_with fail;go_quiet (fail)
     go_wp2_with fail;go_ret;exact ⟨rfl,ZcT B.z _⟩
   ·have W:decide ((i:Int)<(t.size:Int))=false:=Xf;have R:decide (i<t.size)=false:=Xf;have A:=d.z i v p o.z (fun _ h=>absurd h z);subst A;clear o C E u z;go_wp2_with fail;go_quiet (fail)
    go_wp2_with fail;go_ret;exact ⟨rfl,ZcT B.z _⟩
  ·have S:decide ((i:Int)<(s.size:Int))=false:=Xf;have M:decide (i<s.size)=false:=Xf;have A:=d.z i v p o.z (fun h=>absurd h u);subst A;clear o C E u;go_wp2_with fail;go_quiet (fail)
   go_wp2_with fail;go_ret;exact ⟨rfl,ZcT B.z _⟩
end DT
namespace GB
open RowKit MM
variable {b c w w':World} {u v:Value} {l:Xu} {B:Nat} {o:Oper}
def Grown (w w':World) (v v':Value):Prop:=w.grownBy w' v.ownBlock/\∀k,v'.ownBlock=some k->v.ownBlock=some k\/w.heap.size<=k
theorem grownBy_refl (w:World) (r:Option Nat):w.grownBy w r:=⟨rfl,rfl,rfl,Xa _,fun _ _ _=>rfl⟩
theorem Grown.refl (w:World) (v:Value):Grown w w v v:=⟨grownBy_refl _ _,fun k h=>.inl h⟩
theorem Grown.trans {a:World} {x:Value} (h:Grown a b u v) (k:Grown b c v x):Grown a c u x:=by
 obtain ⟨d,j⟩:=h;obtain ⟨g,m⟩:=k;refine ⟨⟨g.os.trans d.os,g.tape.trans d.tape,g.output.trans d.output,Xy d.size g.size,fun i hi f => ?_⟩,fun i hi => ?_⟩
 ·rw [g.block i (XJ hi d.size) (fun e => ?_),d.block i hi f];rcases j i e.symm with h|h
  ·exact f h.symm
  ·omega
 ·rcases m i hi with h|h
  ·exact j i h
  ·exact .inr (Xy d.size h)
theorem Grown.kep {v':Value} (h:Grown w w' v v'):Kep (fun b=>v.ownBlock≠some b) w w':=ZO h.1 fun k d a=>a d
theorem Grown.of_below {a:World} (h:Below a.heap.size a b) (k:Grown b c u v) (hu:∀i,u.ownBlock=some i->i<a.heap.size):Grown a c u v :=
 ⟨⟨k.1.os.trans h.os,k.1.tape.trans h.tape,k.1.output.trans h.output,Xy h.size k.1.size,fun i hi d=>by rw [k.1.block i (XJ hi h.size) d,h.block i hi]⟩,fun i hi=>by
   rcases k.2 i hi with e|e
   ·exact .inl e
   ·exact .inr (Xy h.size e)⟩
theorem Grown.below {a:World} (h:Grown a b u v) (k:Below b.heap.size b c):Grown a c u v :=
 ⟨⟨k.os.trans h.1.os,k.tape.trans h.1.tape,k.output.trans h.1.output,Xy h.1.size k.size,fun i hi d=>by rw [k.block i (XJ hi h.1.size),h.1.block i hi d]⟩,h.2⟩
theorem Zaw (h:Zd B w v l):∀i,v.ownBlock=some i->i<w.heap.size:=fun i hi=>(World.ownsRow.lt h i hi).2
theorem Zd.zero (h:Zd B w v l):Zd 0 w v l:=Zd.weaken h (XX _)
theorem Zd.from (h:Zd 0 w v l) (i:∀k,v.ownBlock=some k->B<=k):Zd B w v l:=by
 refine ⟨h.1,?_⟩;rcases h.2 with f|⟨g,d,a,e,hg,rest⟩
 ·exact .inl f
 ·exact .inr ⟨g,d,a,e,i g (by rw [e];rfl),rest⟩
theorem Zd.kepOwn {S:Nat->Prop} (h:Zd B w v l) (i:Kep S w w') (j:∀k,v.ownBlock=some k->S k):Zd B w' v l:=by
 refine ⟨h.1,?_⟩;rcases h.2 with m|⟨g,d,a,e,n,f,rest⟩
 ·exact .inl m
 ·exact .inr ⟨g,d,a,e,n,by rw [i.block g (Xq.1 f).1 (j g (by rw [e];rfl))];exact f,rest⟩
def Zlp (l:Xu) (v:Value) (w:World) (e:Ending) (w':World):Prop:=∃v',e=.returned v'/\Zd 0 w' v' l/\Grown w w' v v'
theorem Zn {ops:Array Oper} {rest:List Oper} {a:Act} {Q:Exit->Act->World->Prop} (n:o.guard=none) (s x:Operand)
  (E:o.op=.call { callee:=.builtin .append,args:=#[s,x],argTypes:=#[23,23] }) (v:Value) (l:Xu) (hs:a.eval s=v) (f:Zd 0 w v l)
  (src:Value) (m:Xu) (G:a.eval x=src) (D:Zv w src m) (H:m≠[]) (A:l.length+m.length<=140737488355328)
  (h:∀v' w',Zd 0 w' v' (l++m)->Grown w w' v v'->wpList prog ops Q rest (a.put o.dst v') w'):wpList prog ops Q (o::rest) a w:=by
 obtain ⟨i0,hi,t,r,z⟩:=info_parts ZaI;have h0:=Xaa.2 H;obtain ⟨p,y,rfl,_,_,h3,i⟩:=D;rcases i with i|⟨b,off,rfl,_,i⟩
 ·have:=Zi m;rw [i] at this;simp at this;omega
 ·refine wpList_append_lies w n s x 23 E 0 5 i0 (.int .u8 0) 1 1 underlying23 hi t r z rfl (by decide) v l.length (Lib.byteCells l) hs f ⟨b,off,none⟩ (Lib.byteCells m).length y (Lib.byteCells m) G (by simp)
   (fun j u F=>by rw [ZZ];exact i j u F) (byteCells_one m) (by rw [Zi];omega) (by rw [Zi];unfold maxLen;omega) (by rw [Zi];omega) (XX _) w.heap.size rfl ?_
  intro g cap' w' d e q _;refine h _ w' ?_ ⟨e,fun k C => ?_⟩
  ·unfold Zd;rw [Xd,byteCells_append];rw [Zi] at d ⊢;exact d
  ·simp only [Value.ownBlock,Xx] at C;subst C;rcases q with h|h
   ·exact .inl h
   ·exact .inr (Nat.le_of_eq h.symm)
theorem Zeg {a:Act} {K:Act->World->Prop} {Q:Exit->Act->World->Prop} (s x:Operand)
  (D:o.op=.call { callee:=.builtin .append,args:=#[s,x],argTypes:=#[23,23] }) (v:Value) (l:Xu) (hs:a.eval s=v) (f:Zd 0 w v l)
  (src:Value) (m:Xu) (F:a.eval x=src) (C:Zv w src m) (G:m≠[]) (z:l.length+m.length<=140737488355328)
  (h:∀v' w',Zd 0 w' v' (l++m)->Grown w w' v v'->K (a.put o.dst v') w'):o.wp prog a w K Q:=by
 obtain ⟨i0,hi,n,q,t⟩:=info_parts ZaI;have h0:=Xaa.2 G;obtain ⟨p,r,rfl,_,_,h3,i⟩:=C;rcases i with i|⟨b,off,rfl,_,i⟩
 ·have:=Zi m;rw [i] at this;simp at this;omega
 ·refine wp_append_lies w s x 23 D 0 5 i0 (.int .u8 0) 1 1 underlying23 hi n q t rfl (by decide) v l.length (Lib.byteCells l) hs f ⟨b,off,none⟩ (Lib.byteCells m).length r (Lib.byteCells m) F (by simp)
   (fun j u E=>by rw [ZZ];exact i j u E) (byteCells_one m) (by rw [Zi];omega) (by rw [Zi];unfold maxLen;omega) (by rw [Zi];omega) (XX _) w.heap.size rfl ?_
  intro g cap' w' d e y _;refine h _ w' ?_ ⟨e,fun k A => ?_⟩
  ·unfold Zd;rw [Xd,byteCells_append];rw [Zi] at d ⊢;exact d
  ·simp only [Value.ownBlock,Xx] at A;subst A;rcases y with h|h
   ·exact .inl h
   ·exact .inr (Nat.le_of_eq h.symm)
end GB
namespace DT
open RowKit MM DM
theorem Zm6 (a b:Xu) (w:World) (ha:a.length<=1000000000000) (hb:b.length<=1000000000000):Calls prog 197 #[.string ⟨a.toArray⟩,.string ⟨b.toArray⟩] w fun e w'=>e=.returned (.int .i64 (ZL a b:Int))/\∃m,w'=w.drewN m:=by
 obtain ⟨s,hs⟩:∃s:ByteArray,(⟨a.toArray⟩:ByteArray)=s:=⟨_,rfl⟩;obtain ⟨t,E⟩:∃s:ByteArray,(⟨b.toArray⟩:ByteArray)=s:=⟨_,rfl⟩;have p:s.data.toList=a:=by rw [<- hs]
 have o:t.data.toList=b:=by rw [<- E]
 rw [hs,E];have f:=Y4 (fun k=>@ZiN a b k);obtain ⟨S,n⟩:=Xn (ZL a b);rw [n] at f ⊢;have T:=Y4 p;have Y:=Y4 o;have N:=Y4 (Zc5 p);have I:=Y4 (Zc5 o);clear hs E p o n;go_enter func197,ntmps197;go_wp2_with fail
 go_loopw [5] (fun D wr=>∃i:Nat,i<=a.length/\i<=b.length/\D=.int .i64 i/\Y5 (∀j,j<i->a[j]? = b[j]?)/\Y5 (∃m,wr=w.drewN m)) (fun D _=>a.length - (intOf D).toNat)
 case atStart=>exact ⟨0,by omega,by omega,rfl,Y4 (fun j h=>by omega),Y4 ⟨0,rfl⟩⟩
 case round =>
  obtain ⟨i,u,r,rfl,q,G⟩:=hrel;have H:=N.z;have L:=I.z;obtain ⟨M,C⟩:=Xn (min s.size t.size);have m1:min (s.size:Int) (t.size:Int)=(M:Int):=by omega
  have m2:(if t.size<s.size then (t.size:Int) else (s.size:Int))=(M:Int):=by split<;>omega
  by_cases z:i<M
  ·have v:i<a.length:=by omega
   have A:i<b.length:=by omega
   have U:decide ((i:Int)<(M:Int))=true:=Xt;have R:decide (i<M)=true:=Xt;have q5:i<s.size:=by omega
   have q6:i<t.size:=by omega
   obtain ⟨B,d⟩:∃c,a[i]? = some c:=⟨a[i],XZ v⟩;obtain ⟨J,g⟩:∃c,b[i]? = some c:=⟨b[i],XZ A⟩;have V:=Zgx T.z d;have O:=Zgx Y.z g
   by_cases l:B=J
   ·subst l;have X:=Y4 (ZlE q.z d g);have W:=Y4 (And.intro v A);generalize B.toNat=x at *;clear q H L v A d g C z;go_wp2_with fail;go_quiet (fail)
    go_wp2_with fail;have hh:=W.z;go_roundw
    case rel=>exact ⟨i+1,by omega,by omega,by go_num,X,Y4 (ZcT G.z _)⟩
    case measure=>simp [intOf];omega
   ·have F:=f.z i u r q.z (fun _ _ e=>l (by rw [d,g] at e;exact XW e));have q7:((B.toNat:Int) == (J.toNat:Int))=false:=by rw [X6];exact fun e=>l (XaT.1 (by omega))
    subst F;generalize B.toNat=x at *;generalize J.toNat=y at *;clear q H L v A l d g C z;go_wp2_with fail;go_quiet (fail)
    go_wp2_with fail;go_ret;exact ⟨rfl,ZcT G.z _⟩
  ·have U:decide ((i:Int)<(M:Int))=false:=Xf;have R:decide (i<M)=false:=Xf;have F:=f.z i u r q.z (fun h h'=>absurd z (by omega));subst F;clear q H L z C;go_wp2_with fail;go_quiet (fail)
   go_wp2_with fail;go_ret;exact ⟨rfl,ZcT G.z _⟩
end DT
namespace SM
open VM
open EM (Fld Ev ZH ZiS Z0 Zcd ZfK Zg3 ZdB Zlk Zap Zd4 ZaK)
variable {i k:Nat} {a:Int}
def ZbW:Int->List Zq->Xu
 | _,[]=>[]
 | a,d::r=>(Zb (d.1 - a - 1).toNat++Z0 d.2)++ZbW d.1 r
def Za6:Int->List Zq->Int
 | a,[]=>a
 | _,d::r=>Za6 d.1 r
theorem ZnW:∀(a:Int) (c:List Zq) (d:Zq),Za6 a (c++[d])=d.1
 | _,[],_=>rfl
 | _,x::r,d=>ZnW x.1 r d
theorem ZnH:∀(a:Int) (c:List Zq) (d:Zq),ZbW a (c++[d])=ZbW a c++(Zb (d.1 - Za6 a c - 1).toNat++Z0 d.2)
 | a,[],d=>by simp [ZbW,Za6]
 | a,x::r,d=>by
   rw [XK,ZbW,ZnH x.1 r d,ZbW,Za6,Xk (Zb (x.1 - a - 1).toNat++Z0 x.2)]
theorem ZnG (a:Int) {c:List Zq} (h:i<c.length):ZbW a (c.take (i+1))=ZbW a (c.take i)++(Zb (c[i].1 - Za6 a (c.take i) - 1).toNat++Z0 c[i].2):=by
 rw [XG h,ZnH]
theorem ZjV (a:Int) {c:List Zq} (h:i<c.length):Za6 a (c.take (i+1))=c[i].1:=by
 rw [XG h,ZnW]
theorem ZhO:∀(a:Int) (c d:List Zq),isR a (c++d)=(isR a c&&isR (Za6 a c) d)
 | _,[],_=>by simp [isR,Za6]
 | a,x::r,d=>by rw [XK,isR,ZhO x.1 r d,isR,Za6,Xbj]
theorem Zmt {c:List Zq} (h:isR a c=true) (i:Nat):isR a (c.take i)=true:=by
 have:=ZhO a (c.take i) (c.drop i);rw [X8,h] at this;exact (Xw _ _▸this.symm).1
theorem ZqW {c:List Zq} (h:isR a c=true) (i:Nat):isR (Za6 a (c.take i)) (c.drop i)=true:=by
 have:=ZhO a (c.take i) (c.drop i);rw [X8,h] at this;exact (Xw _ _▸this.symm).2
theorem ZCB {c:List Zq} (h:isR a c=true) (hi:i<c.length):Za6 a (c.take i)<c[i].1/\c[i].1<=1099511627776/\ZH c[i].2=0:=by
 have:=ZqW h i;rw [Zms hi,Xw] at this;exact Zgk.1 this.1
theorem Zlh:∀{a:Int} {c:List Zq},isR a c=true->a<=Za6 a c
 | _,[],_=>Xa7 _
 | a,x::r,h=>by
   rw [isR,Xw] at h;have h1:=(Zgk.1 h.1).1;have h2:=Zlh h.2;rw [Za6];omega
theorem ZtU:∀{a:Int} {c:List Zq},isR a c=true->a<=1099511627776->Za6 a c<=1099511627776
 | _,[],_,h=>h
 | a,x::r,h,_=>by
   rw [isR,Xw] at h;rw [Za6];exact ZtU h.2 (Zgk.1 h.1).2.1
theorem Zq3 {x:Zq} (n:Nat) (h:ZH x.2=0):(Zb n++Z0 x.2).length<=67000:=by
 obtain ⟨h4,b⟩:=ZaK.1 h;have b1:=Zc n;have b2:=Zcd x.2;have b3:=Zd4 b;rw [Xd];omega
theorem Zp3:∀{a:Int} {c:List Zq},isR a c=true->(ZbW a c).length<=67000*c.length
 | _,[],_=>by simp [ZbW]
 | a,x::r,h=>by
   rw [isR,Xw] at h;have h1:=Zq3 (x:=x) (x.1 - a - 1).toNat (Zgk.1 h.1).2.2;have h2:=Zp3 h.2;rw [ZbW,Xd,Xh];omega
def ZaF (l:List Zq) (k:Nat):List Zq:=(l.drop (16*k)).take 16
theorem Zqc (l:List Zq) (k:Nat):(ZaF l k).length<=16:=by unfold ZaF;rw [Xi];omega
theorem Zet (l:List Zq):∀{i:Nat},i<=l.length->Za6 0 (l.take i)=ZaJ l i
 | 0,_=>rfl
 | i+1,h=>by rw [ZjV 0 (by omega),Zgg (by omega)]
theorem Zid (l:List Zq) (i m:Nat):Za6 (Za6 0 (l.take i)) ((l.drop i).take m)=Za6 0 (l.take (i+m)):=by
 have e:∀(a:Int) (c d:List Zq),Za6 a (c++d)=Za6 (Za6 a c) d:=fun a c=>by
  induction c generalizing a with
  | nil=>intro d;rfl
  | cons x r ih=>intro d;exact ih x.1 d
 rw [<- e,List.take_add]
theorem ZjM {l:List Zq} (i:Nat):∀{m:Nat},i+m<=l.length->ZbW (ZaJ l i) ((l.drop i).take m)=ZR l i (i+m)
 | 0,_=>by rw [XaK,ZbW,Xad,Zcl]
 | m+1,h=>by
   have b:m<(l.drop i).length:=by rw [Xp];omega
   rw [ZnG _ b,ZjM i (by omega),show i+(m+1)=(i+m)+1 by omega,Zck (by omega),Zfc (by omega),<- Zet l (by omega),Zid,Zet l (by omega),Xa0]
theorem Ziq {l:List Zq} (h:16*k<=l.length):ZaF l k=(l.drop (16*k)).take (Zbu l k - 16*k):=by
 unfold ZaF Zbu
 by_cases b:16*k+16<=l.length
 ·rw [Xan b,show 16*k+16 - 16*k=16 by omega]
 ·rw [Xbi (by omega),XO (by rw [Xp];omega),XO (by rw [Xp];exact Xa _)]
theorem Zes {l:List Zq} (h:16*k<=l.length):(ZaF l k).length=Zbu l k - 16*k:=by
 rw [Ziq h,Xi,Xp];unfold Zbu;omega
theorem ZkD {l:List Zq} (h:16*k<=l.length):ZbW (ZaJ l (16*k)) (ZaF l k)=ZR l (16*k) (Zbu l k):=by
 have h1:16*k<=Zbu l k:=by unfold Zbu;omega
 have h2:Zbu l k<=l.length:=by unfold Zbu;omega
 rw [Ziq h,ZjM _ (by omega),show 16*k+(Zbu l k - 16*k)=Zbu l k by omega]
theorem ZnM {l:List Zq} (h:16*k<=l.length):Za6 (ZaJ l (16*k)) (ZaF l k)=ZaJ l (Zbu l k):=by
 have h1:16*k<=Zbu l k:=by unfold Zbu;omega
 have b:Zbu l k<=l.length:=by unfold Zbu;omega
 rw [Ziq h,<- Zet l h,Zid,show 16*k+(Zbu l k - 16*k)=Zbu l k by omega,Zet l b]
theorem chunk_ok {l:List Zq} (h:isR 0 l=true) (b:16*k<=l.length):isR (ZaJ l (16*k)) (ZaF l k)=true:=by
 have:=Zmt (ZqW h (16*k)) 16;rw [Zet l b] at this;exact this
theorem ZuT {l:List Zq} (h:ZaS l) (k:Nat):ZaS (ZaF l k):=fun d b=>h d (XaX (Xaq b))
end SM
namespace GB
open RowKit MM
variable {B q:Nat} {w W W':World} {v:Value} {l:Xu}
def Zb5 (B q:Nat) (w W:World) (v:Value) (l:Xu):Prop:=Zd B W v l/\Below B w W/\B<=W.heap.size/\q<W.heap.size/\∀g,v.ownBlock=some g->g≠q
theorem Zb5.grown {v':Value} {m:Xu} (h:Zb5 B q w W v l) (i:Zd 0 W' v' m) (b:Grown W W' v v'):Zb5 B q w W' v' m/\W'.heap[q]? = W.heap[q]? := by
 obtain ⟨p,o,n,j,f⟩:=h;have hs:=b.1.size;have a:∀k,v.ownBlock=some k->B<=k:=fun k c=>(World.ownsRow.lt p k c).1;refine ⟨⟨Zd.from i fun k c => ?_,o.trans (b.kep.below n fun k c e=>by have:=a k e;omega),by omega,by omega,fun g d => ?_⟩,b.1.block q j fun e=>f q e.symm rfl⟩
 ·rcases b.2 k c with e|e
  ·exact a k e
  ·omega
 ·rcases b.2 g d with e|e
  ·exact f g e
  ·omega
theorem Zb5.below (h:Zb5 B q w W v l) (a:Below W.heap.size W W'):Zb5 B q w W' v l:=by
 obtain ⟨d,e,c,h4,b⟩:=h;have hs:=a.size;exact ⟨d.keep a,e.trans (a.mono c),by omega,by omega,b⟩
end GB
namespace GM
open EM (Tr Zm)
open PM (Zk)
open DM (ZN)
open DT (ZfH Zyc Zh9)
theorem ZkV (r:Tr Zk) (rows:List (Tr Zk)):Zl (r::rows)=PM.ZY r.2++Zl rows:=by simp [Zl]
theorem ZjX:∀(rows:List (Tr Zk)) (off:Int) (u:Xu),(ZfH (ZS off rows) u=none/\Zm rows u=[]) \/
  ∃(k:Nat) (b:k<rows.length),ZfH (ZS off rows) u=some (u,(off+((Zl (rows.take k)).length:Int),(((PM.ZY rows[k].2).length:Int),(rows[k].2.length:Int))))/\Zm rows u=rows[k].2/\rows[k].1=u
 | [],off,u=>.inl ⟨rfl,rfl⟩
 | r::rows,off,u=>by
   by_cases h:r.1=u
   ·refine .inr ⟨0,by simp,?_,?_,h⟩
    ·unfold ZfH;rw [ZS,List.find?_cons];simp [h,Zl]
    ·rw [Zm,Xe h];rfl
   ·have e:ZfH (ZS off (r::rows)) u=ZfH (ZS (off+((PM.ZY r.2).length:Int)) rows) u:=by
     unfold ZfH;rw [ZS,List.find?_cons];simp [h]
    rw [e,Zm,Xc h];rcases ZjX rows (off+((PM.ZY r.2).length:Int)) u with a|⟨k,b,a,d,c⟩
    ·exact .inl a
    ·refine .inr ⟨k+1,by simpa using b,?_,d,c⟩;rw [a,XaC,ZkV,Xd];simp only [Xby,Xx,X9,true_and,and_true];omega
theorem ZkW {rows:List (Tr Zk)} {k:Nat} (a:k<rows.length):((Zl rows).drop (Zl (rows.take k)).length).take (PM.ZY rows[k].2).length=PM.ZY rows[k].2/\(Zl (rows.take k)).length+(PM.ZY rows[k].2).length<=(Zl rows).length:=by
 have e:Zl rows=Zl (rows.take k)++(PM.ZY rows[k].2++Zl (rows.drop (k+1))):=by
  rw [<- ZkV,<- X7 a];unfold Zl;rw [<- XaQ,X8]
 constructor
 ·rw [e,Xas,Xbm]
 ·have h:=Xr List.length e;simp only [Xd] at h;omega
theorem ZkG (rows:List (Tr Zk)) (p:Xu):∀(off:Int),(Zh9 (ZS off rows) p).map (·.1)=ZaD rows p:=by
 induction rows with
 | nil=>intro off;rfl
 | cons r rows ih =>
   intro off
   have e:ZaD (r::rows) p=(if r.1.take p.length=p then [r.1] else [])++ZaD rows p:=by
    unfold ZaD;rw [XC]
    by_cases h:r.1.take p.length=p
    ·rw [Xbv (by simpa using h),Xe h];rfl
    ·rw [Xbn (by simpa using h),Xc h];rfl
   rw [e,<- ih (off+((PM.ZY r.2).length:Int)),ZS];unfold Zh9
   by_cases h:r.1.take p.length=p
   ·have a:p.length<=r.1.length:=by
     have:=Xr List.length h;rw [Xi] at this;omega
    rw [Xe h,Xbv (by simp [Zyc,h,a])];rfl
   ·rw [Xc h,Xbn (by simp [Zyc,h])];rfl
end GM
namespace SG
open RowKit MM
open EV (ZD Zae Z2)
open SM (Zq)
open GM (ZiH Zbg Zff Zgp)
theorem ZmU (l:List Zq) (a b:Int) (n:Nat):(Zbg l a b n).length<=n:=by
 unfold Zbg;rw [XF];have:=Xbs (fun k=>decide (a<=(l.getD k SM.ZcA).2.1)&&decide ((l.getD k SM.ZcA).2.1<=b)) (List.range n);rw [List.length_range] at this;exact this
theorem Ztg (v:Value) (l:List Zq) (a z:Int) (w:World) (D:ZF ZD w v l) (R:l.length<=1000000000) :
  Calls prog 34 #[v,.int .i64 a,.int .i64 z] w fun e w'=>(∃u,e=.returned u/\Zc6 w' u (ZiH l a z))/\Below w.heap.size w w':=by
 obtain ⟨p,aa,rfl,U,G,_⟩:=D.shape;unfold maxLen at G;have HV:=Y4 D;have s:=Y4 (Zgp l a z);have L:=Y4 (fun (n:Nat) (R:n<l.length)=>Zff (a:=a) (b:=z) R);have y:=Y4 (ZmU l a z);have N:Y5 (ZbU w.heap.size w (.slice none 0 0) (Zbg l a z 0)):=Y4 (ZbU.nil_ _ _);clear D;go_enter func34,ntmps34;go_wp2_with fail
 go_loopw [7,8] (fun u i wr=>∃k:Nat,k<=l.length/\i=.int .i64 k/\Y5 (ZbU w.heap.size wr u (Zbg l a z k))/\Y5 (Below w.heap.size w wr)) (fun _ i _=>l.length - (intOf i).toNat)
 case atStart=>exact ⟨0,by omega,rfl,N,Y4 (Below.refl _ _)⟩
 case round =>
  obtain ⟨k,hk,rfl,m,o⟩:=hrel;clear N
  by_cases j:k<l.length
  ·have t1:decide ((k:Int)<(l.length:Int))=true:=by simp;omega
   have t2:decide (k<l.length)=true:=Xs j;have t3:(k:Int)<(l.length:Int):=by omega
   obtain ⟨b,off,x,rfl,ab,_,I,J,H,V⟩:=Z2 (HV.z.below o.z) j;have c:=L.z k j;obtain ⟨t,M⟩:=Xn (l[k].2.1);rw [M] at J c;have A:=o.z.size;have Y:=y.z k;obtain ⟨S,O,rfl,X,Z⟩:=(ZbU.irow m.z).shape;clear V M I H
   by_cases g:a<=t
   ·have W:decide (t>=a)=true:=Xs g;have T:decide (a<=t)=true:=Xs g
    by_cases q:t<=z
    ·have q3:decide (t<=z)=true:=Xs q;rw [Xe ⟨g,q⟩] at c;have F:=Y4 c;clear g q c;go_wp2_with (at_builtin;refine Zdj rfl _ _ rfl w.heap.size _ (Zbg l a z k) wr (k:Int) rfl rfl m.z rfl (by omega) A ?_)
     intro v4 w4 d r;rw [<- F.z] at d;have f:=Y4 d;have E:=Y4 (o.z.trans r);clear d r;go_wp2_with fail;go_roundw
     case rel=>exact ⟨k+1,by omega,by go_num,f,E⟩
     case measure=>simp [intOf];omega
    ·have q3:decide (t<=z)=false:=Xz q;rw [Xc (fun h=>q h.2),XH] at c;have f:Y5 (ZbU w.heap.size wr (.slice S (Zbg l a z k).length O) (Zbg l a z (k+1))):=Y4 (by rw [c];exact m.z);clear g q c;go_wp2_with fail;go_roundw
     case rel=>exact ⟨k+1,by omega,by go_num,f,o⟩
     case measure=>simp [intOf];omega
   ·have W:decide (t>=a)=false:=Xz g;have T:decide (a<=t)=false:=Xz g;rw [Xc (fun h=>g h.1),XH] at c;have f:Y5 (ZbU w.heap.size wr (.slice S (Zbg l a z k).length O) (Zbg l a z (k+1))):=Y4 (by rw [c];exact m.z);clear g c;go_wp2_with fail;go_roundw
    case rel=>exact ⟨k+1,by omega,by go_num,f,o⟩
    case measure=>simp [intOf];omega
  ·obtain rfl:k=l.length:=by omega
   have t1:decide ((l.length:Int)<(l.length:Int))=false:=by simp
   have B:=m.z;rw [s.z] at B;have C:=Y4 B;clear m B;go_wp2_with fail;go_ret;exact ⟨⟨_,rfl,ZbU.irow C.z⟩,o.z⟩
theorem Ztz (v:Value) (l:List Zq) (a z:Int) (w:World) (O:ZF ZD w v l) (Z:l.length<=1000000000) :
  Calls prog 69 #[v,.int .i64 a,.int .i64 z] w fun e w'=>(∃u,e=.returned u/\Zc6 w' u (ZiH l a z))/\Below w.heap.size w w':=by
 obtain ⟨p,af,rfl,aa,U,_⟩:=O.shape;unfold maxLen at U;have HV:=Y4 O;have C:=Y4 (Zgp l a z);have V:=Y4 (fun (n:Nat) (Z:n<l.length)=>Zff (a:=a) (b:=z) Z);have J:=Y4 (ZmU l a z);have W:Y5 (ZbU w.heap.size w (.slice none 0 0) (Zbg l a z 0)):=Y4 (ZbU.nil_ _ _);clear O;go_enter func69,ntmps69;go_wp2_with fail
 go_loopw [7,12] (fun u i wr=>∃k:Nat,k<=l.length/\i=.int .i64 k/\Y5 (ZbU w.heap.size wr u (Zbg l a z k))/\Y5 (Below w.heap.size w wr)) (fun _ i _=>l.length - (intOf i).toNat)
 case atStart=>exact ⟨0,by omega,rfl,W,Y4 (Below.refl _ _)⟩
 case round =>
  obtain ⟨k,hk,rfl,A,H⟩:=hrel;clear W
  by_cases o:k<l.length
  ·have t1:decide ((k:Int)<(l.length:Int))=true:=by simp;omega
   have t2:decide (k<l.length)=true:=Xs o;have t3:(k:Int)<(l.length:Int):=by omega
   obtain ⟨b,off,x,rfl,ag,_,D,E,ae,I⟩:=Z2 (HV.z.below H.z) o;have c:=V.z k o;obtain ⟨⟨G,⟨t,fs⟩⟩,Y⟩:∃d,l[k]=d:=⟨_,rfl⟩;rw [Y] at D E I c;dsimp only at D E I c;obtain ⟨y,F,rfl,_⟩:=I.shape;have L:=H.z.size;have ac:=J.z k;obtain ⟨pu,X,rfl,ab,ad⟩:=(ZbU.irow A.z).shape;have r:Below wr.heap.size wr (wr.alloc (.cells #[.int .i64 G,.int .i64 t,.slice y fs.length F] 59)):=(Below.refl _ _).alloc (Xa _) _;have m:=Y4 (A.z.keep r);have j:=Y4 (H.z.trans (r.mono L));have T:Y5 (w.heap.size<=(wr.alloc (.cells #[.int .i64 G,.int .i64 t,.slice y fs.length F] 59)).heap.size):=Y4 j.z.size;clear I Y r A
   by_cases q:a<=t
   ·have q2:decide (a<=t)=true:=Xs q
    by_cases s:t<=z
    ·have q3:decide (t<=z)=true:=Xs s;rw [Xe ⟨q,s⟩] at c;have S:=Y4 c;clear q s c;go_wp2_with (at_builtin;go_loud (refine Zdj rfl _ _ rfl w.heap.size _ (Zbg l a z k) (wr.alloc (.cells #[.int .i64 G,.int .i64 t,.slice y fs.length F] 59)) (k:Int) rfl rfl m.z (by rw [World.size_alloc];rfl) (by omega) T.z ?_))
     intro v4 w4 f B;rw [<- S.z] at f;have g:=Y4 f;have R:=Y4 (j.z.trans B);clear f B;go_wp2_with fail;go_roundw
     case rel=>exact ⟨k+1,by omega,by go_num,g,R⟩
     case measure=>simp [intOf];omega
    ·have q3:decide (t<=z)=false:=Xz s;rw [Xc (fun h=>s h.2),XH] at c;have g:Y5 (ZbU w.heap.size (wr.alloc (.cells #[.int .i64 G,.int .i64 t,.slice y fs.length F] 59)) (.slice pu (Zbg l a z k).length X) (Zbg l a z (k+1))):=Y4 (by rw [c];exact m.z);clear q s c;go_wp2_with fail;go_roundw
     case rel=>exact ⟨k+1,by omega,by go_num,g,j⟩
     case measure=>simp [intOf];omega
   ·have q2:decide (a<=t)=false:=Xz q;rw [Xc (fun h=>q h.1),XH] at c;have g:Y5 (ZbU w.heap.size (wr.alloc (.cells #[.int .i64 G,.int .i64 t,.slice y fs.length F] 59)) (.slice pu (Zbg l a z k).length X) (Zbg l a z (k+1))):=Y4 (by rw [c];exact m.z);clear q c;go_wp2_with fail;go_roundw
    case rel=>exact ⟨k+1,by omega,by go_num,g,j⟩
    case measure=>simp [intOf];omega
  ·obtain rfl:k=l.length:=by omega
   have t1:decide ((l.length:Int)<(l.length:Int))=false:=by simp
   have M:=A.z;rw [C.z] at M;have N:=Y4 M;clear A M;go_wp2_with fail;go_ret;exact ⟨⟨_,rfl,ZbU.irow N.z⟩,H.z⟩
open EM (Zg Zbd ZX Zm Zbf)
open RM (Zcy)
variable {s:Xu} {k:Nat}
theorem ZvV {rs:List ZgP} (a:ZX rs) (b:k<rs.length) (e:rs[k].1=s):Zm rs s=rs[k].2:=by
 rw [<- e];exact Zcy a (XI b)
theorem ZmN {rs:List ZgP} (i:ZX rs) (h:ZtL rs s k) (g:∀b:k<rs.length,rs[k].1≠s):Zm rs s=[]:=by
 refine Zbf fun t f e => ?_;obtain ⟨j,c,rfl⟩:=Xbc f;rcases Nat.lt_trichotomy j k with a|a|a
 ·exact Zbd (h.2.1 j c a) e
 ·subst a;exact g c e
 ·have b:k<rs.length:=by omega
  have d:Zg rs[k].1 rs[j].1=true:=List.pairwise_iff_getElem.1 i k j b c a;rw [e,h.2.2 b] at d;cases d
theorem Ztf (v:Value) (rs:List ZgP) (s:Xu) (w:World) (o:ZF Zpz w v rs) (C:ZX rs) :
  Calls prog 21 #[v,.string ⟨s.toArray⟩] w fun e w'=>(∃u,e=.returned u/\ZF Zdp w' u (Zm rs s))/\Below w.heap.size w w':=by
 obtain ⟨p,H,rfl,E,x,_⟩:=o.shape;unfold maxLen at x;have D:=Y4 (ZdK _ rs s w o);have G:=Y4 o;have y:=Y4 C;clear o C;go_enter func21,ntmps21;go_wp2_with fail;refine D.z.mono ?_;rintro e w1 ⟨⟨k,rfl,h⟩,A⟩;have l:=Y4 h;have m:=Y4 A;have hk:=h.1;clear h A D
 by_cases d:k<rs.length
 ·have F:((k:Int) == (rs.length:Int))=false:=Xb;have q3:(k:Int)<(rs.length:Int):=by omega
  have q2:decide (k<rs.length)=true:=Xs d;have q4:(k == rs.length)=false:=Xb;obtain ⟨b,off,u,rfl,J,_,c1,c2,B⟩:=Zm1 (G.z.below m.z) d;have i:=Y4 B.any;obtain ⟨t,q⟩:=Xn (rs[k]);rw [q] at c1 i;obtain ⟨pu,cu,rfl,_⟩:=i.z.shape;have z:Y5 (∀n:k<rs.length,rs[k]=t):=Y4 fun _=>q;have j:=Y4 d;clear q B
  by_cases f:t.1=s
  ·have a:Zm rs s=t.2:=by rw [ZvV y.z j.z (by rw [z.z j.z];exact f),z.z j.z]
   have c:=Y4 a;have g:=Zc3 t.1 s;have r:decide (t.1=s)=true:=Xs f;have I:(t.1 == s)=true:=by rw [Xaj];exact f
   rw [r] at g;clear a f d;go_wp2_with fail;go_ret;exact ⟨⟨_,rfl,by rw [c.z];exact i.z⟩,m.z⟩
  ·have a:Zm rs s=[]:=ZmN y.z l.z fun n=>by rw [z.z n];exact f
   have c:=Y4 a;have g:=Zc3 t.1 s;have r:decide (t.1=s)=false:=Xz f;have I:(t.1 == s)=false:=by rw [X6];exact f
   rw [r] at g;clear a f d;go_wp2_with fail;go_ret;exact ⟨⟨_,rfl,by rw [c.z];exact ZB.nil_ _ _⟩,m.z⟩
 ·obtain rfl:k=rs.length:=by omega
  have a:Zm rs s=[]:=ZmN y.z l.z fun n=>absurd n (by omega);have c:=Y4 a;have F:((rs.length:Int) == (rs.length:Int))=true:=by simp
  clear a d;go_wp2_with fail;go_ret;exact ⟨⟨_,rfl,by rw [c.z];exact ZB.nil_ _ _⟩,m.z⟩
end SG
namespace SG
open RowKit MM
open GM (ZaD Zjr)
theorem ZaX (l:Xu):(⟨l.toArray⟩:ByteArray).size=l.length:=by simp [ByteArray.size]
theorem Zrg (rs:List ZgP) (t:Xu):(ZaD rs t).length<=rs.length:=by
 unfold ZaD;have:=Xbs (fun x:Xu=>decide (x.take t.length=t)) (rs.map (·.1));rw [XF] at this;exact this
theorem Zrz (v:Value) (rs:List ZgP) (t:Xu) (w:World) (A:ZF Zpz w v rs) (hn:rs.length<=1000000000) (ht:t.length<=1000000000000) (H:∀x∈rs,x.1.length<=1000000000000) :
  Calls prog 26 #[v,.string ⟨t.toArray⟩] w fun e w'=>(∃u,e=.returned u/\ZcF w' u (ZaD rs t))/\Below w.heap.size w w':=by
 obtain ⟨p,aa,rfl,N,C,_⟩:=A.shape;unfold maxLen at C;have Z:=Y4 A;have R:=Y4 H;have l:Y5 (ZaD (rs.take rs.length) t=ZaD rs t):=Y4 (by rw [XB]);have m:Y5 (ZbL w.heap.size w (.slice none 0 0) (ZaD (rs.take 0) t)):=Y4 (ZbL.nil_ _ _);have D:=Y4 (fun (k:Nat) (hk:k<rs.length)=>Zjr (p:=t) hk);have o:=Y4 (fun k=>Zrg (rs.take k) t);have S:=ZaX t;clear A H;go_enter func26,ntmps26;go_wp2_with fail
 go_loopw [5,6] (fun Y r wr=>∃i:Nat,i<=rs.length/\r=.int .i64 i/\Y5 (ZbL w.heap.size wr Y (ZaD (rs.take i) t))/\Y5 (Below w.heap.size w wr)) (fun _ r _=>rs.length - (intOf r).toNat)
 case atStart=>exact ⟨0,by omega,rfl,m,Y4 (Below.refl _ _)⟩
 case round =>
  obtain ⟨i,hi,rfl,h,j⟩:=hrel;clear m
  by_cases f:i<rs.length
  ·have O:decide ((i:Int)<(rs.length:Int))=true:=Xt;have q4:decide (i<rs.length)=true:=Xt;have q8:(i:Int)<(rs.length:Int):=by omega
   obtain ⟨b,off,uu,rfl,ab,_,c1,c2,L⟩:=Zm1 (ZF.below Z.z j.z) f;have a:=D.z i f;have E:=R.z rs[i] (XI f);obtain ⟨X,F⟩:=Xn (rs[i].1);rw [F] at c1 a E;have M:=ZaX X;have T:=o.z i;have V:(rs.take i).length<=1000000000:=by rw [Xi];omega
   have q:=j.z.size;obtain ⟨I,G,rfl,_,_⟩:=ZbL.shape h.z;clear c2 L F
   by_cases z:t.length<=X.length
   ·have q5:decide ((X.length:Int)>=(t.length:Int))=true:=Xt;have W:decide (t.length<=X.length)=true:=Xs z
    by_cases g:X.take t.length=t
    ·have J:((((⟨X.toArray⟩:ByteArray).extract 0 t.length).toList) == t)=true:=by rw [ZrO,Xaj];exact g
     rw [Xe g] at a;have U:=Y4 a;clear a g;go_wp2_with (at_builtin;refine Zb8 rfl _ _ rfl w.heap.size _ (ZaD (rs.take i) t) wr X rfl rfl h.z rfl (by omega) q ?_)
     intro v4 w4 c n;rw [<- U.z] at c;have d:=Y4 c;have B:=Y4 (j.z.trans n);clear c n;go_wp2_with fail;go_roundw
     case rel=>exact ⟨i+1,by omega,by go_num,d,B⟩
     case measure=>simp [intOf];omega
    ·have J:((((⟨X.toArray⟩:ByteArray).extract 0 t.length).toList) == t)=false:=by rw [ZrO,X6];exact g
     rw [Xc g,XH] at a;have d:Y5 (ZbL w.heap.size wr (.slice I (ZaD (rs.take i) t).length G) (ZaD (rs.take (i+1)) t)):=Y4 (by rw [a];exact h.z);clear a g;go_wp2_with fail;go_roundw
     case rel=>exact ⟨i+1,by omega,by go_num,d,j⟩
     case measure=>simp [intOf];omega
   ·have q5:decide ((X.length:Int)>=(t.length:Int))=false:=Xf;have W:decide (t.length<=X.length)=false:=Xz z;have g:¬X.take t.length=t:=fun e=>z (by have:=Xr List.length e;rw [Xi] at this;omega);rw [Xc g,XH] at a;have d:Y5 (ZbL w.heap.size wr (.slice I (ZaD (rs.take i) t).length G) (ZaD (rs.take (i+1)) t)):=Y4 (by rw [a];exact h.z);clear a g;go_wp2_with fail;go_roundw
    case rel=>exact ⟨i+1,by omega,by go_num,d,j⟩
    case measure=>simp [intOf];omega
  ·obtain rfl:i=rs.length:=by omega
   have O:decide ((rs.length:Int)<(rs.length:Int))=false:=by simp
   have q2:decide (rs.length<rs.length)=false:=by simp
   have s:=h.z;rw [l.z] at s;have y:=Y4 s;clear f s h;go_wp2_with fail;go_ret;exact ⟨⟨_,rfl,ZbL.trow y.z⟩,j.z⟩
theorem ZAH (a b c d e f g:Int) (W:World):(Op.equalIn 10000 65 (.agg #[.int .i64 a,.int .i64 b,.int .i64 c,.int .i64 d,.int .i64 e,.int .i64 f,.int .i64 g]) (.agg #[.int .i64 a,.int .i64 b,.int .i64 c,.int .i64 d,.int .i64 e,.int .i64 f,.int .i64 g])).run prog W=.ok true W:=by
 have p:prog.underlying 65=some (.struct (prog.fieldsOf 65)):=by kernel_rfl
 have z:prog.stoodInHeld 65=false:=by kernel_rfl
 have hf:(prog.fieldsOf 65).toList.map (fun f=>(f.name == "_", f.type,f.offset))=[(false,3,0),(false,63,1),(false,3,2),(false,3,3),(false,3,4),(false,3,5),(false,3,6)]:=by kernel_rfl
 rw [show (10000:Nat)=9998+1+1 from rfl,run_equalIn_struct W _ _ _ _ p z];generalize (prog.fieldsOf 65).toList=fs at hf
 obtain ⟨f0,f1,q,v,f4,C,f6,rfl⟩:∃a b c d e f g,fs=[a,b,c,d,e,f,g]:=by
  have o:=Xr List.length hf;rw [XF] at o
  match fs,o with
  | [a,b,c,d,e,f,g],_=>exact ⟨a,b,c,d,e,f,g,rfl⟩
 simp only [XC,XN,XaV,X9,and_true] at hf;obtain ⟨⟨m,t0,r⟩,⟨j,y,w⟩,⟨k,A,s⟩,⟨n,t3,D⟩,⟨h,t4,u⟩,⟨l,t5,t⟩,⟨i,x,B⟩⟩:=hf;have m:f0.name ≠ "_" := by simpa using m
 have j:f1.name ≠ "_" := by simpa using j
 have k:q.name ≠ "_" := by simpa using k
 have n:v.name ≠ "_" := by simpa using n
 have h:f4.name ≠ "_" := by simpa using h
 have l:C.name ≠ "_" := by simpa using l
 have i:f6.name ≠ "_" := by simpa using i
 have a8:=Tryz.isAgg3;have z8:=Tryz.sizeOf3;have u8:=underlying3;have a9:=Tryz.isAgg63;have z9:=Tryz.sizeOf63;have u9:=underlying63;simp only [Op.eqFields,m,j,k,n,h,l,i,t0,y,A,t3,t4,t5,x,r,w,s,D,u,t,B,ne_eq,not_false_eq_true,if_true];go_simp
