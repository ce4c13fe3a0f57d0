import Derived.Test.YtdijhifdjbnkfaaGreatZT3
import Derived.Test.YtdijhifdjbnkfaaGreatZT6
set_option maxRecDepth 100000
set_option maxHeartbeats 0
set_option linter.unusedVariables false
set_option linter.unusedSimpArgs false
namespace Go.Proofs.YtdijhifdjbnkfaaGreat
open Lib (hid)
open Tryz
namespace MM
open RowKit
variable {S T:Nat->Prop} {w w':World} {v:Value} {l:Xu} {B n cap:Nat} {p:Option Addr}
def BOn (S:Nat->Prop) (w:World) (v:Value) (l:Xu):Prop:=ZD cU8 S w v l
theorem BOn.keep (h:BOn S w v l) (c:Kep S w w') (a:∀b,b<w.heap.size->S b->T b):BOn T w' v l:=ZD.keep h c a
theorem BOn.weak (h:BOn S w v l) (a:∀b,b<w.heap.size->S b->T b):BOn T w v l:=ZD.weak h a
theorem BOn.below (h:BOn S w v l) (a:Below w.heap.size w w'):BOn S w' v l:=BOn.keep h (Za S a) fun _ _ h=>h
theorem BOn.brow (h:BOn S w v l):Zq w v l:=Zll (B:=w.heap.size) h fun b a _=>a
theorem BOn.bin (h:BOn S w v l) (a:∀b,S b->b<B):Z3 B w v l:=Zll (B:=B) h fun b _ hs=>a b hs
theorem BOn.of_in (h:Z3 B w v l) (a:B<=w.heap.size):BOn (fun b=>b<B) w v l:=ZtS h a
theorem BOn.of_own (h:Zd B w v l):BOn (fun b=>v.ownBlock=some b) w v l:=by
 have g:ZD cU8 (fun b=>b<w.heap.size) w v l:=ZtS (Row.of_own h) (Xc _);obtain ⟨p,cap,a,rfl,j,o,m,e,k⟩:=g;refine ⟨p,cap,a,rfl,j,o,m,⟨e.1,fun i hi c=>e.2 i hi c⟩,?_⟩;rcases k with h|⟨b,off,rfl,d,_,f⟩
 ·exact .inl h
 ·exact .inr ⟨b,off,rfl,d,rfl,f⟩
theorem BOn.shape (h:BOn S w v l):∃p cap,v=.slice p l.length cap/\l.length<=cap/\cap<=maxLen:=by
 obtain ⟨p,cap,a,b,c,_⟩:=ZD.shape h;exact ⟨p,cap,a,b,c⟩
theorem BOn.nil_ (S:Nat->Prop) (w:World):BOn S w (.slice none 0 0) []:=ZD.nil_ S w
theorem BOn.drewN (h:BOn S w v l) (n:Nat):BOn S (w.drewN n) v l:=h.keep ((Kep.refl S w).drewN n) fun _ _ h=>h
theorem BOn.at_ (h:BOn S w (.slice p n cap) l) {k:Nat} (e:k<l.length) :
  ∃b off,p=some ⟨b,off,none⟩/\b<w.heap.size/\w.cell? ⟨b,off+k,none⟩=some (.int .u8 ((l[k]).toNat:Int)):=by
 obtain ⟨b,off,vs,f,c,_,a,d⟩:=ZD.at_ h e;have a:vs=[.int .u8 ((l[k]).toNat:Int)]:=a;refine ⟨b,off,f,c,?_⟩;have:=d 0 _ (by rw [a];rfl);rw [show cU8.size=1 from rfl,XaG,Xah] at this;exact this
theorem BOn.drop (h:BOn S w (.slice p n cap) l) (k:Nat) (a:k<=n) :
  BOn S w (.slice (if cap=k then p else p.map (·.add k)) (n - k) (cap - k)) (l.drop k):=by
 have:=ZD.drop h k a;rw [show cU8.size=1 from rfl,XaG] at this;exact this
theorem BOn.drop2 {b off:Nat} (h:BOn S w (.slice (some ⟨b,off,none⟩) n cap) l) (k:Nat) (d:k<=n) :
  (cap=k->BOn S w (.slice (some ⟨b,off,none⟩) (n - k) 0) (l.drop k))/\(¬cap=k->BOn S w (.slice (some ⟨b,off+k,none⟩) (n - k) (cap - k)) (l.drop k)):=by
 have c:=h.drop k d;constructor
 ·intro a;rw [Xe a,a,Xas] at c;exact c
 ·intro a;rw [Xa a,Xai,ZY] at c;exact c
theorem BOn.take (h:BOn S w (.slice p n cap) l) (k:Nat) (a:k<=n):BOn S w (.slice p k cap) (l.take k):=ZD.take h k a
end MM
namespace TR
open RowKit MM GB
variable {B:Nat} {wr w' w W:World} {gb:Option Nat} {vh vb:Value} {H Bd:Xu}
theorem Zb3 {u u':Value} {L f:Xu} (g:B<=wr.heap.size) (h:Zd B wr u L) (c:Grown wr w' u u') (b:Zd 0 w' u' f):Zd B w' u' f/\Below B wr w':=by
 have d:∀k,u.ownBlock=some k->B<=k:=fun k a=>(World.ownsRow.lt h k a).1;refine ⟨Zd.from b fun k a => ?_,c.kep.below g fun k a e=>by have:=d k e;omega⟩;rcases c.2 k a with e|e
 ·exact d k e
 ·omega
structure EncSt (w W wr:World) (gb:Option Nat) (vh vb:Value) (H Bd:Xu):Prop where
 low:Below w.heap.size w wr
 gsz:W.heap.size<=wr.heap.size
 wsz:w.heap.size<=W.heap.size
 blk:∀g,gb=some g->g<W.heap.size/\wr.heap[g]? = W.heap[g]?
 oh:Zd 0 wr vh H
 ob:Zd 0 wr vb Bd
 fh:∀k,vh.ownBlock=some k->w.heap.size<=k/\gb≠some k
 fb:∀k,vb.ownBlock=some k->w.heap.size<=k/\gb≠some k
 ap:∀k,vh.ownBlock=some k->vb.ownBlock≠some k
theorem EncSt.swap (h:EncSt w W wr gb vh vb H Bd):EncSt w W wr gb vb vh Bd H :=
 ⟨h.low,h.gsz,h.wsz,h.blk,h.ob,h.oh,h.fb,h.fh,fun k b a=>h.ap k a b⟩
theorem EncSt.growB {a:Value} {f:Xu} (h:EncSt w W wr gb vh vb H Bd) (d:Grown wr w' vb a) (m:Zd 0 w' a f):EncSt w W w' gb vh a H f:=by
 have hs:=d.kep.size;refine ⟨h.low.trans (d.kep.below h.low.size fun k c e=>by have:=(h.fb k e).1;omega),Xx h.gsz hs,h.wsz,fun g b => ?_,Zd.kepOwn h.oh d.kep (fun k c e=>h.ap k c e),m,h.fh,fun k c => ?_,fun k c i => ?_⟩
 ·have j:=(h.blk g b).1;have n:=h.gsz;exact ⟨j,(d.kep.block g (by omega) (fun e=>(h.fb g e).2 b)).trans (h.blk g b).2⟩
 ·have n:=h.gsz;have h3:=h.wsz;rcases d.2 k c with e|e
  ·exact h.fb k e
  ·exact ⟨by omega,fun l=>by have:=(h.blk k l).1;omega⟩
 ·rcases d.2 k i with e|e
  ·exact h.ap k c e
  ·have:=Zaw h.oh k c;omega
theorem EncSt.growH {a:Value} {b:Xu} (h:EncSt w W wr gb vh vb H Bd) (c:Grown wr w' vh a) (d:Zd 0 w' a b):EncSt w W w' gb a vb b Bd :=
 (h.swap.growB c d).swap
theorem EncSt.forget (h:EncSt w W wr gb vh vb H Bd):EncSt w w wr none vh vb H Bd :=
 ⟨h.low,h.low.size,Xc _,(fun g b=>by cases b),h.oh,h.ob,fun k a=>⟨(h.fh k a).1,by simp⟩,fun k a=>⟨(h.fb k a).1,by simp⟩,h.ap⟩
theorem EncSt.row {x:Value} {X:Xu} (h:EncSt w w wr none vh vb H Bd) {c:World} (b:Below wr.heap.size wr c) (d:Zd wr.heap.size c x X):EncSt w c c x.ownBlock vh vb H Bd :=
 ⟨h.low.trans (b.mono h.low.size),Xc _,Xx h.low.size b.size,fun g f=>⟨(World.ownsRow.lt d g f).2,rfl⟩,Zd.keep h.oh b,Zd.keep h.ob b,
  fun k a=>⟨(h.fh k a).1,fun e=>by have i:=(World.ownsRow.lt d k e).1;have j:=Zaw h.oh k a;omega⟩,
  fun k a=>⟨(h.fb k a).1,fun e=>by have i:=(World.ownsRow.lt d k e).1;have j:=Zaw h.ob k a;omega⟩,h.ap⟩
theorem Zgs {v:Value} {l:Xu} (h:Zd B w v l) (i:∀g,v.ownBlock=some g->w'.heap[g]? = w.heap[g]?):Zd B w' v l:=by
 refine ⟨h.1,?_⟩;rcases h.2 with f|⟨g,b,a,c,e,d,rest⟩
 ·exact .inl f
 ·exact .inr ⟨g,b,a,c,e,by rw [i g (by rw [c];rfl)];exact d,rest⟩
theorem Znq {o:Oper} {a:Act} {K:Act->World->Prop} {Q:Exit->Act->World->Prop} (s x:Operand)
  (r:o.op=.call { callee:=.builtin .append,args:=#[s,x],argTypes:=#[23,23] }) (v:Value) (l:Xu) (hs:a.eval s=v) (b:Zd B w v l) (q:B<=w.heap.size)
  (src:Value) (m:Xu) (p:a.eval x=src) (j:Zq w src m) (i:m≠[]) (d:l.length+m.length<=140737488355328)
  (h:∀v' w',Zd B w' v' (l++m)->Below B w w'->Kep (fun k=>k<B) w w'->K (a.put o.dst v') w'):o.wp prog a w K Q:=by
 refine Zeg s x r v l hs (Zd.zero b) src m p j i d fun v' w' n g => ?_;have f:∀k,v.ownBlock=some k->B<=k:=fun k c=>(World.ownsRow.lt b k c).1;have c:Kep (fun k=>k<B) w w':=g.kep.mono fun k c e=>by have:=f k e;omega
 refine h v' w' (Zd.from n fun k c => ?_) (c.below q fun k h=>h) c;rcases g.2 k c with e|e
 ·exact f k e
 ·omega
end TR
namespace VG
open RowKit MM VM
def ZCM (S:Nat->Prop) (x:Value) (a:Int) (rest:Xu) (w:World) (e:Ending) (w':World):Prop :=
 ∃v',e=.returned (.tuple #[x,v',.int .i64 a])/\BOn S w' v' rest/\Below w.heap.size w w'
theorem ZCm (S:Nat->Prop) (v:Value) (l:Xu) (w:World) (G:BOn S w v l) :
  Calls prog 153 #[v] w (ZCM S (.int .u64 (Zk l).1) (Zk l).2.2 (Zab l) w):=by
 obtain ⟨p,L,rfl,X,I⟩:=G.shape;unfold maxLen at I;unfold Zab;obtain ⟨o,h⟩:=Xn (Zk l);have y:Hid (Zdz 0 0 (l.drop 0)=o):=hid h;rw [h];obtain ⟨R,J⟩:=Xn ((if o.2.2=0 then l.drop o.2.1 else []));rw [J];have N:=hid G;have t:=hid J;clear G h J;go_enter func153,ntmps153;go_wp2_with fail
 go_step3
 go_wp2_with fail
 go_step3
 go_wp2_with fail
 go_loop [2,5,10] (fun acc size i=>∃(k n:Nat),k<=l.length/\i=.int .i64 k/\size=.int .i64 0/\acc=.int .u64 n/\n<2^(7*k)/\k<=9/\Hid (Zdz k n (l.drop k)=o)) (fun _ _ i=>l.length - (intOf i).toNat)
 case atStart=>exact ⟨0,0,by omega,rfl,rfl,rfl,by omega,by omega,y⟩
 case round =>
  obtain ⟨k,n,hk,rfl,rfl,rfl,A,D,F⟩:=hrel;clear y
  by_cases z:k<l.length
  ·obtain ⟨b,off,rfl,W,r⟩:=(N.out).at_ z;have g:=F.out;have f:=N.out.drop2 (k+1) (by omega);rw [ZjR z] at g;obtain ⟨c,M⟩:=Xn (l[k]);rw [M] at g r;have H:=c.toNat_lt;clear M F
   by_cases a:(k=9/\1<c.toNat)\/(0<k/\c.toNat=0)
   ·rw [Zg5 a] at g;subst g;have q:R=[]:=by rw [<- t.out];rfl
    subst q;clear t f
    by_cases e:k=9/\1<c.toNat
    ·obtain ⟨e,h1⟩:=e;have C:((k:Int) == 9)=true:=by simp;omega
     have O:decide ((c.toNat:Int)>1)=true:=by simp;omega
     clear a e;go_wp2_with fail
     go_ret3
     exact ⟨_,rfl,BOn.nil_ _ w,Below.refl _ _⟩
    ·have T:0<k:=by omega
     have t0:((c.toNat:Int) == 0)=true:=by simp;omega
     have O:(c.toNat:Int)<=1:=by omega
     have t3:0<(k:Int):=by omega
     clear a e
     by_cases e:k=9
     ·have C:((k:Int) == 9)=true:=by simp;omega
      clear e;go_wp2_with fail
      go_ret3
      exact ⟨_,rfl,BOn.nil_ _ w,Below.refl _ _⟩
     ·have C:((k:Int) == 9)=false:=by simp;omega
      clear e;go_wp2_with fail
      go_ret3
      exact ⟨_,rfl,BOn.nil_ _ w,Below.refl _ _⟩
   ·have m:=Zfa A D a;have E:=ZpX n k c.toNat A H m;obtain ⟨V,u⟩:=Xn (n+c.toNat%128*2^(7*k));rw [u] at E
    by_cases j:c.toNat<128
    ·rw [ZfO a j,u] at g;subst g;obtain rfl:l.drop (k+1)=R:=by rw [<- t.out];rfl
     have Y:(k:Int)+1<=(l.length:Int):=by omega
     have U:(l.length:Int)<=(L:Int):=by omega
     have hd:((k:Int)+1 == 0)=false:=by simp;omega
     have d:=hid f;clear f u t A m
     by_cases e:k=9
     ·have C:((k:Int) == 9)=true:=by simp;omega
      have O:(c.toNat:Int)<=1:=by omega
      have t3:0<(k:Int):=by omega
      have t4:((c.toNat:Int) == 0)=false:=by simp;omega
      clear a e;go_wp2_with fail;go_quiet (fail)
      go_wp2_with fail
      ·go_ret3
       exact ⟨_,rfl,(d.out.1 (by assumption)).drewN nq,MM.below_drewN (Below.refl _ _) nq⟩
      ·go_ret3
       exact ⟨_,rfl,(d.out.2 (by assumption)).drewN nq,MM.below_drewN (Below.refl _ _) nq⟩
     ·have C:((k:Int) == 9)=false:=by simp;omega
      by_cases T:0<k
      ·have t3:0<(k:Int):=by omega
       have t4:((c.toNat:Int) == 0)=false:=by simp;omega
       clear a e;go_wp2_with fail;go_quiet (fail)
       go_wp2_with fail
       ·go_ret3
        exact ⟨_,rfl,(d.out.1 (by assumption)).drewN nq,MM.below_drewN (Below.refl _ _) nq⟩
       ·go_ret3
        exact ⟨_,rfl,(d.out.2 (by assumption)).drewN nq,MM.below_drewN (Below.refl _ _) nq⟩
      ·clear a e;go_wp2_with fail;go_quiet (fail)
       go_wp2_with fail
       ·go_ret3
        exact ⟨_,rfl,(d.out.1 (by assumption)).drewN nq,MM.below_drewN (Below.refl _ _) nq⟩
       ·go_ret3
        exact ⟨_,rfl,(d.out.2 (by assumption)).drewN nq,MM.below_drewN (Below.refl _ _) nq⟩
    ·rw [Zew a j,u] at g;have s:=Zdy A c.toNat;rw [u] at s;have x:=ZdV D a j;have B:=hid g;clear g u f A m;have e:¬k=9:=by omega
     have C:((k:Int) == 9)=false:=by simp;omega
     by_cases T:0<k
     ·have t3:0<(k:Int):=by omega
      have t4:((c.toNat:Int) == 0)=false:=by simp;omega
      clear a e;go_wp2_with fail
      go_round
      case rel=>exact ⟨k+1,V,by omega,by go_num,rfl,rfl,s,x,B⟩
      case measure=>simp [intOf];omega
     ·clear a e;go_wp2_with fail
      go_round
      case rel=>exact ⟨k+1,V,by omega,by go_num,rfl,rfl,s,x,B⟩
      case measure=>simp [intOf];omega
  ·obtain rfl:k=l.length:=by omega
   have g:=F.out;rw [Xae,ZfP] at g;subst g;have q:R=[]:=by rw [<- t.out];rfl
   subst q;clear t F;go_wp2_with fail
   go_ret3
   exact ⟨_,rfl,BOn.nil_ _ w,Below.refl _ _⟩
