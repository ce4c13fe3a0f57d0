import Derived.OrdersHeld
import Derived.Test.YtdijhifdjbnkfaaGreatZD3
import Derived.Test.YtdijhifdjbnkfaaGreatZD5
set_option maxRecDepth 100000
set_option maxHeartbeats 8000000
set_option linter.unusedVariables false
set_option linter.unusedSimpArgs false
namespace Go.Proofs.YtdijhifdjbnkfaaGreat.RG
open Go Go.RowKit
section
variable {P : Program} {ops : Array Oper} {Q : Exit → Act → World → Prop} {md : Region.Mode}
def Grew (w w':World):Prop:=Below w.heap.size w w'
theorem Grew.refl (w:World):Grew w w:=Below.refl _ w
theorem Grew.trans {a b c:World} (h:Grew a b) (k:Grew b c):Grew a c:=Below.trans h (Below.mono k h.size)
theorem ZlK {S S':World→Prop} (hS:∀ w,S' w→S w):∀ (fuel:Nat) (listed:Array Bool) (a:Act) (w:World),wpAnyH P md ops Q S' fuel listed a w→wpAnyH P md ops Q S fuel listed a w
 | 0,_,_,_,h=>h
 | fuel+1,_,_,_,h=>⟨h.1,fun i hi=>wpOp_mono (fun a' w' h'=>⟨hS _ h'.1,ZlK hS fuel _ a' w' h'.2⟩) (h.2 i hi)⟩
def Way (p:Prop):Prop:=p
theorem Way.out {p:Prop} (h:Way p):p:=h
def walk (P:Program) (ops:Array Oper) (Q:Exit→Act→World→Prop):List (Option Oper×Bool)→Act→World→Prop
 | [],a,w=>Q .normal a w
 | (some o,true)::rest,a,w=>∃ v,YieldsIf P ops (Grew w) o v a∧walk P ops Q rest (a.put o.dst v) w
 | (some o,false)::rest,a,w=>∀ K:Act→World→Prop,(∀ a' w',Grew w w'→walk P ops Q rest a' w'→K a' w')→if Region.wanted o (yielded ops a.tmps)=true then o.wp P a w K Q else K (a.put o.dst undef) w
 | (none,_)::_,_,_=>False
def ZpY (ops:Array Oper) (l:List (Nat×Bool)):List (Option Oper×Bool):=l.map fun p=>(ops[p.1]?,p.2)
def Zrd (md:Region.Mode) (ops:Array Oper):List (Nat×Bool)→Array Bool→Bool
 | [],listed=>(Region.ready md ops listed).isEmpty
 | (i,true)::rest,listed=>Region.free md ops listed i&&(Region.ready md ops listed).contains i&&Zrd md ops rest (listed.setIfInBounds i true)
 | (i,false)::rest,listed=>(Region.ready md ops listed == [i])&&Zrd md ops rest (listed.setIfInBounds i true)
theorem ZlJ (hs:Region.noSelect ops=true) (hQ:∀ c a d v w,Q (.panic c) (Act.put a d v) w→Q (.panic c) a w) :
  ∀ (l:List (Nat×Bool)) (listed:Array Bool) (a:Act) (w:World),Zrd md ops l listed=true→walk P ops Q (ZpY ops l) a w→wpAnyH P md ops Q (Grew w) l.length listed a w
 | [],listed,a,w,hp,h=>⟨by simpa [Zrd] using hp,h⟩
 | (i,b)::rest,listed,a,w,hp,h=>by
   have h':walk P ops Q ((ops[i]?,b)::ZpY ops rest) a w:=h
   cases ho:ops[i]? with
   | none=>rw [ho] at h';cases b<;>exact h'.elim
   | some o =>
     rw [ho] at h'
     cases b with
     | true =>
       obtain ⟨v,hy,hr⟩:=h'
       simp only [Zrd,Bool.and_eq_true] at hp
       exact wpAnyH_take ho hs hp.1.1 hp.1.2 (fun c a w=>hQ c a _ _ w) hy (Grew.refl w) (ZlJ hs hQ rest _ _ _ hp.2 hr)
     | false =>
       simp only [Zrd,Bool.and_eq_true] at hp
       refine wpAnyH_all (rs:=[i]) (by simpa using hp.1) (by simp) (fun j hj => ?_)
       obtain rfl:j=i:=by simpa using hj
       exact wpOp_step ho (fun K hK=>h' K (fun a' w' h1 h2=>hK a' w' ⟨h1,ZlK (fun W hW=>Grew.trans h1 hW) _ _ _ _ (ZlJ hs hQ rest _ _ _ hp.2 h2)⟩))
theorem ZcJ (l:List (Nat×Bool)) {id:Nat} {a:Act} {w:World} (hm:P.follows .mixedOrders=true) (hs:Region.noSelect ops=true) (hl:l.length=ops.size)
  (hp:Zrd .any ops l (Array.replicate ops.size false)=true) (hQ:∀ c a d v w,Q (.panic c) (Act.put a d v) w→Q (.panic c) a w)
  (h:walk P ops Q (ZpY ops l) a w.drew):(Code.region id ops true).wp P Q a w:=by
 refine wp_region_held (S:=Grew w.drew) hm ?_
 rw [← hl]
 have:=ZlJ (md:=.any) hs hQ l (Array.replicate ops.size false) a w.drew hp h
 rw [← hl] at this
 exact this
theorem take {rest:List (Option Oper×Bool)} {a:Act} {w:World} {o:Oper} {v:Value} (hw:Region.wanted o (yielded ops a.tmps)=true)
  (hy:∀ W,Grew w W→(execOp a.eval o).run P W=.ok (.value v) W) (h:walk P ops Q rest (a.put o.dst v) w):walk P ops Q ((some o,true)::rest) a w :=
 ⟨v,.inl ⟨hw,hy⟩,h⟩
theorem skip {rest:List (Option Oper×Bool)} {a:Act} {w:World} {o:Oper} (hw:Region.wanted o (yielded ops a.tmps)=false)
  (h:walk P ops Q rest (a.put o.dst undef) w):walk P ops Q ((some o,true)::rest) a w :=
 ⟨undef,.inr ⟨hw,rfl⟩,h⟩
theorem alone {rest:List (Option Oper×Bool)} {a:Act} {w:World} {o:Oper} (hw:Region.wanted o (yielded ops a.tmps)=true)
  (h:∀ K:Act→World→Prop,Way (∀ a' w',Grew w w'→walk P ops Q rest a' w'→K a' w')→o.wp P a w K Q):walk P ops Q ((some o,false)::rest) a w:=by
 intro K hK
 rw [if_pos hw]
 exact h K hK
theorem Zce {rest:List (Option Oper×Bool)} {a:Act} {w:World} {o:Oper} (hw:Region.wanted o (yielded ops a.tmps)=false)
  (h:walk P ops Q rest (a.put o.dst undef) w):walk P ops Q ((some o,false)::rest) a w:=by
 intro K hK
 rw [if_neg (by rw [hw];exact Bool.false_ne_true)]
 exact hK _ _ (Grew.refl w) h
theorem done {a:Act} {w:World} (h:Q .normal a w):walk P ops Q [] a w:=h
end
end Go.Proofs.YtdijhifdjbnkfaaGreat.RG
namespace Go.Proofs.YtdijhifdjbnkfaaGreat.RK
open Go Go.RowKit MM
section
variable {T : Nat → Prop} {P : Program} {ops : Array Oper} {Q : Exit → Act → World → Prop} {md : Region.Mode}
theorem ZlK {S S':World→Prop} (hS:∀ w,S' w→S w):∀ (fuel:Nat) (listed:Array Bool) (a:Act) (w:World),wpAnyH P md ops Q S' fuel listed a w→wpAnyH P md ops Q S fuel listed a w
 | 0,_,_,_,h=>h
 | fuel+1,_,_,_,h=>⟨h.1,fun i hi=>wpOp_mono (fun a' w' h'=>⟨hS _ h'.1,ZlK hS fuel _ a' w' h'.2⟩) (h.2 i hi)⟩
def Way (p:Prop):Prop:=p
theorem Way.out {p:Prop} (h:Way p):p:=h
def walk (T:Nat→Prop) (P:Program) (ops:Array Oper) (Q:Exit→Act→World→Prop):List (Option Oper×Bool)→Act→World→Prop
 | [],a,w=>Q .normal a w
 | (some o,true)::rest,a,w=>∃ v,YieldsIf P ops (Kep T w) o v a∧walk T P ops Q rest (a.put o.dst v) w
 | (some o,false)::rest,a,w=>∀ K:Act→World→Prop,(∀ a' w',Kep T w w'→walk T P ops Q rest a' w'→K a' w')→if Region.wanted o (yielded ops a.tmps)=true then o.wp P a w K Q else K (a.put o.dst undef) w
 | (none,_)::_,_,_=>False
def ZpY (ops:Array Oper) (l:List (Nat×Bool)):List (Option Oper×Bool):=l.map fun p=>(ops[p.1]?,p.2)
def Zrd (md:Region.Mode) (ops:Array Oper):List (Nat×Bool)→Array Bool→Bool
 | [],listed=>(Region.ready md ops listed).isEmpty
 | (i,true)::rest,listed=>Region.free md ops listed i&&(Region.ready md ops listed).contains i&&Zrd md ops rest (listed.setIfInBounds i true)
 | (i,false)::rest,listed=>(Region.ready md ops listed == [i])&&Zrd md ops rest (listed.setIfInBounds i true)
theorem ZlJ (hs:Region.noSelect ops=true) (hQ:∀ c a d v w,Q (.panic c) (Act.put a d v) w→Q (.panic c) a w) :
  ∀ (l:List (Nat×Bool)) (listed:Array Bool) (a:Act) (w:World),Zrd md ops l listed=true→walk T P ops Q (ZpY ops l) a w→wpAnyH P md ops Q (Kep T w) l.length listed a w
 | [],listed,a,w,hp,h=>⟨by simpa [Zrd] using hp,h⟩
 | (i,b)::rest,listed,a,w,hp,h=>by
   have h':walk T P ops Q ((ops[i]?,b)::ZpY ops rest) a w:=h
   cases ho:ops[i]? with
   | none=>rw [ho] at h';cases b<;>exact h'.elim
   | some o =>
     rw [ho] at h'
     cases b with
     | true =>
       obtain ⟨v,hy,hr⟩:=h'
       simp only [Zrd,Bool.and_eq_true] at hp
       exact wpAnyH_take ho hs hp.1.1 hp.1.2 (fun c a w=>hQ c a _ _ w) hy (Kep.refl _ w) (ZlJ hs hQ rest _ _ _ hp.2 hr)
     | false =>
       simp only [Zrd,Bool.and_eq_true] at hp
       refine wpAnyH_all (rs:=[i]) (by simpa using hp.1) (by simp) (fun j hj => ?_)
       obtain rfl:j=i:=by simpa using hj
       exact wpOp_step ho (fun K hK=>h' K (fun a' w' h1 h2=>hK a' w' ⟨h1,ZlK (fun W hW=>h1.trans hW) _ _ _ _ (ZlJ hs hQ rest _ _ _ hp.2 h2)⟩))
theorem ZcJ (l:List (Nat×Bool)) {id:Nat} {a:Act} {w:World} (hm:P.follows .mixedOrders=true) (hs:Region.noSelect ops=true) (hl:l.length=ops.size)
  (hp:Zrd .any ops l (Array.replicate ops.size false)=true) (hQ:∀ c a d v w,Q (.panic c) (Act.put a d v) w→Q (.panic c) a w)
  (h:walk T P ops Q (ZpY ops l) a w.drew):(Code.region id ops true).wp P Q a w:=by
 refine wp_region_held (S:=Kep T w.drew) hm ?_
 rw [← hl]
 have:=ZlJ (md:=.any) hs hQ l (Array.replicate ops.size false) a w.drew hp h
 rw [← hl] at this
 exact this
theorem take {rest:List (Option Oper×Bool)} {a:Act} {w:World} {o:Oper} {v:Value} (hw:Region.wanted o (yielded ops a.tmps)=true)
  (hy:∀ W,Kep T w W→(execOp a.eval o).run P W=.ok (.value v) W) (h:walk T P ops Q rest (a.put o.dst v) w):walk T P ops Q ((some o,true)::rest) a w :=
 ⟨v,.inl ⟨hw,hy⟩,h⟩
theorem skip {rest:List (Option Oper×Bool)} {a:Act} {w:World} {o:Oper} (hw:Region.wanted o (yielded ops a.tmps)=false)
  (h:walk T P ops Q rest (a.put o.dst undef) w):walk T P ops Q ((some o,true)::rest) a w :=
 ⟨undef,.inr ⟨hw,rfl⟩,h⟩
theorem alone {rest:List (Option Oper×Bool)} {a:Act} {w:World} {o:Oper} (hw:Region.wanted o (yielded ops a.tmps)=true)
  (h:∀ K:Act→World→Prop,Way (∀ a' w',Kep T w w'→walk T P ops Q rest a' w'→K a' w')→o.wp P a w K Q):walk T P ops Q ((some o,false)::rest) a w:=by
 intro K hK
 rw [if_pos hw]
 exact h K hK
theorem Zce {rest:List (Option Oper×Bool)} {a:Act} {w:World} {o:Oper} (hw:Region.wanted o (yielded ops a.tmps)=false)
  (h:walk T P ops Q rest (a.put o.dst undef) w):walk T P ops Q ((some o,false)::rest) a w:=by
 intro K hK
 rw [if_neg (by rw [hw];exact Bool.false_ne_true)]
 exact hK _ _ (Kep.refl _ w) h
theorem done {a:Act} {w:World} (h:Q .normal a w):walk T P ops Q [] a w:=h
end
end Go.Proofs.YtdijhifdjbnkfaaGreat.RK
namespace Go.Proofs.YtdijhifdjbnkfaaGreat.PM
open VM
def Zo4 (lo hi:Int) (l:List UInt8) (o:Bool):Nat×List UInt8×Bool:=match numL lo hi l with
 | some (n,r)=>(n,r,o)
 | none=>(0,[],true)
theorem Zo8 {lo hi:Int} {l r:List UInt8} {n:Nat} (h:numL lo hi l=some (n,r)) (o:Bool):Zo4 lo hi l o=(n,r,o):=by unfold Zo4;rw [h]
theorem Zo6 {lo hi:Int} {l:List UInt8} (h:numL lo hi l=none) (o:Bool):Zo4 lo hi l o=(0,[],true):=by unfold Zo4;rw [h]
theorem ZoZ (lo hi:Int) (l:List UInt8):(∃ n r,numL lo hi l=some (n,r))∨numL lo hi l=none:=by
 cases h:numL lo hi l with
 | none=>exact .inr rfl
 | some p=>exact .inl ⟨p.1,p.2,rfl⟩
theorem Zo5 (lo hi:Int) (l:List UInt8) (o:Bool):((Zo4 lo hi l o).1:Int)≤max 0 hi∧(Zo4 lo hi l o).2.1.length≤l.length:=by
 rcases ZoZ lo hi l with ⟨n,r,h⟩ | h
 ·rw [Zo8 h]
  have:=ZoY h
  exact ⟨by show (n:Int)≤_;omega,by show r.length≤_;omega⟩
 ·rw [Zo6 h]
  exact ⟨by show ((0:Nat):Int)≤_;omega,by simp⟩
theorem Zo7 {lo hi:Int} {l:List UInt8} {o:Bool} (h:o=true):(Zo4 lo hi l o).2.2=true:=by
 rcases ZoZ lo hi l with ⟨n,r,e⟩ | e
 ·rw [Zo8 e];exact h
 ·rw [Zo6 e]
def hby (hs:List (Nat×Nat)):List UInt8:=hs.flatMap fun h=>Zd8 h.1++Zd8 h.2
theorem Zk7 (hs:List (Nat×Nat)) (x y:Nat):hby (hs++[(x,y)])=hby hs++(Zd8 x++Zd8 y):=by simp [hby]
def HSt (b:List UInt8) (n:Nat) (o:Bool) (l0:List UInt8) (i:Nat) (hs:List (Nat×Nat)) (l:List UInt8) (o1:Bool):Prop :=
 hs.length=i∧((o1=o∧Zaq b n i hs l∧l0=hby hs++l)∨(o1=true∧l=[]∧Za5 b))
theorem ZlR {b l:List UInt8} {n:Nat} {m:Int} {o:Bool} (hb:b.length<4611686018427387904) (h:numL 0 m b=some (n,l)):HSt b n o l 0 [] l o:=⟨rfl,.inl ⟨rfl,Zfu hb h,rfl⟩⟩
theorem ZlS {b l0 l:List UInt8} {n i:Nat} {o o1:Bool} {hs:List (Nat×Nat)} (hb:b.length<4611686018427387904) (h:HSt b n o l0 i hs l o1) (hi:i<cnt n) :
  HSt b n o l0 (i+1) (hs++[((Zo4 0 9223372036854775807 l o1).1,(Zo4 0 9223372036854775807 (Zo4 0 9223372036854775807 l o1).2.1 (Zo4 0 9223372036854775807 l o1).2.2).1)])
   (Zo4 0 9223372036854775807 (Zo4 0 9223372036854775807 l o1).2.1 (Zo4 0 9223372036854775807 l o1).2.2).2.1 (Zo4 0 9223372036854775807 (Zo4 0 9223372036854775807 l o1).2.1 (Zo4 0 9223372036854775807 l o1).2.2).2.2:=by
 obtain ⟨hl,h⟩:=h
 refine ⟨by simp [hl],?_⟩
 rcases h with ⟨rfl,hc,he⟩ | ⟨rfl,rfl,hn⟩
 ·rcases ZoZ 0 9223372036854775807 l with ⟨x,l1,h1⟩ | h1
  ·rw [Zo8 h1]
   dsimp only
   rcases ZoZ 0 9223372036854775807 l1 with ⟨y,l2,h2⟩ | h2
   ·rw [Zo8 h2]
    refine .inl ⟨rfl,Zfv hb hc hi h1 h2,?_⟩
    rw [he,(ZoY h1).1,(ZoY h2).1,Zk7]
    simp only [List.append_assoc]
   ·rw [Zo6 h2]
    exact .inr ⟨rfl,rfl,Zft hb hc hi h1 h2⟩
  ·rw [Zo6 h1]
   dsimp only
   rw [Zo6 (Zo1 _ _)]
   exact .inr ⟨rfl,rfl,Zfs hb hc hi h1⟩
 ·rw [Zo6 (Zo1 _ _)]
  dsimp only
  rw [Zo6 (Zo1 _ _)]
  exact .inr ⟨rfl,rfl,hn⟩
def Zar (N:Int) (l:List UInt8) (d:Int) (m k:Nat) (qs:List Int) (lk:List UInt8):Prop:=∀ p r,Zbc N l p r→p.1=d∧p.2.length=m∧qs=p.2.take k∧lk=ZjU (Zm6 0 qs) (p.2.drop k)++r
def QSt (N:Int) (l:List UInt8) (o:Bool) (d:Int) (m k:Nat) (qs:List Int) (lk:List UInt8) (ok:Bool):Prop :=
 qs.length=k∧((ok=o∧Zar N l d m k qs lk∧l=Zd8 (d - N).toNat++(Zd8 m++(ZjU 0 qs++lk))∧N≤d∧d<65536∧Zto 1048576 qs=true)∨(ok=true∧lk=[]∧∀ p r,¬ Zbc N l p r))
theorem Zrq {N:Int} {l r:List UInt8} {p:Post} (hN:0≤N) (h:Zbc N l p r):numL 0 (65535 - N) l=some ((p.1 - N).toNat,Zd8 p.2.length++(ZjU 0 p.2++r)):=by
 obtain ⟨hp,rfl⟩:=h
 unfold okP at hp
 unfold Zrt
 rw [List.append_assoc,List.append_assoc]
 exact Zo2 (by omega) (by omega) (by omega) _
theorem Zro {N:Int} {l r l1:List UInt8} {p:Post} (h:Zbc N l p r) (h1:l1=Zd8 p.2.length++(ZjU 0 p.2++r)):numL 1 (min 1048576 (l1.length:Int)) l1=some (p.2.length,ZjU 0 p.2++r):=by
 obtain ⟨hp,_⟩:=h
 unfold okP at hp
 have hl:=Ztq hp.2.2.2
 have h0:=List.length_pos_iff.2 hp.2.2.1
 have hg:=(ZjV p.2 0).1
 have hle:p.2.length≤l1.length:=by rw [h1,List.length_append,List.length_append];omega
 rw [h1] at hle ⊢
 exact Zo2 (by omega) (by omega) (by omega) _
theorem Zsf {N:Int} {l l1 l2:List UInt8} {x m:Nat} {o:Bool} (hN:0≤N) (h1:numL 0 (65535 - N) l=some (x,l1)) (h2:numL 1 (min 1048576 (l1.length:Int)) l1=some (m,l2)):QSt N l o (N+x) m 0 [] l2 o:=by
 have k1:=ZoY h1
 have k2:=ZoY h2
 refine ⟨rfl,.inl ⟨rfl,fun p r hp => ?_,?_,by omega,by omega,rfl⟩⟩
 ·have e1:=Zrq hN hp
  rw [h1] at e1
  simp only [Option.some.injEq,Prod.mk.injEq] at e1
  have e2:=Zro hp e1.2
  rw [h2] at e2
  simp only [Option.some.injEq,Prod.mk.injEq] at e2
  have:=hp.1.1
  exact ⟨by omega,e2.1.symm,rfl,e2.2⟩
 ·rw [ZjU,List.nil_append,← k2.1,show (N+(x:Int) - N).toNat=x by omega]
  exact k1.1
theorem Zsd {N:Int} {l:List UInt8} (hN:0≤N) (h1:numL 0 (65535 - N) l=none):∀ p r,¬ Zbc N l p r:=fun p r hp=>by
 rw [Zrq hN hp] at h1;cases h1
theorem Zse {N:Int} {l l1:List UInt8} {x:Nat} (hN:0≤N) (h1:numL 0 (65535 - N) l=some (x,l1)) (h2:numL 1 (min 1048576 (l1.length:Int)) l1=none):∀ p r,¬ Zbc N l p r:=fun p r hp=>by
 have e1:=Zrq hN hp
 rw [h1] at e1
 simp only [Option.some.injEq,Prod.mk.injEq] at e1
 rw [Zro hp e1.2] at h2
 cases h2
theorem Zsg {N:Int} {l lk:List UInt8} {o ok:Bool} {d:Int} {m k:Nat} {qs:List Int} (h:QSt N l o d m k qs lk ok) (hk:k<m) :
  QSt N l o d m (k+1) (qs++[Zm6 0 qs+(Zo4 0 (1048575 - Zm6 0 qs) lk ok).1]) (Zo4 0 (1048575 - Zm6 0 qs) lk ok).2.1 (Zo4 0 (1048575 - Zm6 0 qs) lk ok).2.2:=by
 obtain ⟨hl,h⟩:=h
 refine ⟨by simp [hl],?_⟩
 rcases h with ⟨rfl,hc,he,hd0,hd1,hr⟩ | ⟨rfl,rfl,hn⟩
 ·have key:∀ p r,Zbc N l p r→∃ (hlt:k<p.2.length),Zm6 0 qs≤p.2[k]∧p.2[k]<1048576∧lk=Zd8 (p.2[k] - Zm6 0 qs).toNat++(ZjU (p.2[k]+1) (p.2.drop (k+1))++r):=by
   intro p r hp
   obtain ⟨h1,h2,h3,h4⟩:=hc p r hp
   have hlt:k<p.2.length:=by omega
   have hrp:=hp.1.2.2.2
   rw [List.drop_eq_getElem_cons hlt,ZjU,List.append_assoc] at h4
   have e:p.2=(qs++[p.2[k]])++p.2.drop (k+1):=by
    rw [h3,← List.take_succ_eq_append_getElem hlt,List.take_append_drop]
   have hsn:Ztj 1048576 (0 - 1) (qs++[p.2[k]])=true:=by
    have:∀ (a b:List Int) (n:Int),Ztj 1048576 n (a++b)=true→Ztj 1048576 n a=true:=by
     intro a
     induction a with
     | nil=>intro b n _;rfl
     | cons z a ih =>
       intro b n hz
       rw [List.cons_append,Ztj,Bool.and_eq_true] at hz
       rw [Ztj,Bool.and_eq_true]
       exact ⟨hz.1,ih b z hz.2⟩
    rw [e] at hrp
    exact this _ _ _ hrp
   rw [Ztn,Bool.and_eq_true,Bool.and_eq_true,decide_eq_true_eq,decide_eq_true_eq] at hsn
   exact ⟨hlt,hsn.2.1,hsn.2.2,h4⟩
  have hA:=(Zm7 1048576 qs 0 (by omega) hr).1
  rcases ZoZ 0 (1048575 - Zm6 0 qs) lk with ⟨x,l1,h1⟩ | h1
  ·rw [Zo8 h1]
   have k1:=ZoY h1
   refine .inl ⟨rfl,fun p r hp => ?_,?_,hd0,hd1,?_⟩
   ·obtain ⟨e1,e2,e3,e4⟩:=hc p r hp
    obtain ⟨hlt,h2,h3,h4⟩:=key p r hp
    rw [k1.1] at h4
    obtain ⟨h5,h6⟩:=Zef k1.2.1 (by omega) h4
    have e5:Zm6 0 qs+(x:Int)=p.2[k]:=by omega
    refine ⟨e1,e2,?_,?_⟩
    ·rw [List.take_succ_eq_append_getElem hlt,← e3]
     show qs++[Zm6 0 qs+(x:Int)]=_
     rw [e5]
    ·show l1=_
     rw [Zm8,h6]
     show _=ZjU (Zm6 0 qs+(x:Int)+1) _++r
     rw [e5]
   ·show l=_
    rw [he,k1.1,ZjW]
    show _=Zd8 (d - N).toNat++(Zd8 m++(ZjU 0 qs++Zd8 (Zm6 0 qs+(x:Int) - Zm6 0 qs).toNat++l1))
    rw [show (Zm6 0 qs+(x:Int) - Zm6 0 qs).toNat=x by omega]
    simp only [List.append_assoc]
   ·show Ztj 1048576 (0 - 1) (qs++[Zm6 0 qs+(x:Int)])=true
    rw [Ztn,Bool.and_eq_true,Bool.and_eq_true,decide_eq_true_eq,decide_eq_true_eq]
    exact ⟨hr,by omega,by omega⟩
  ·rw [Zo6 h1]
   refine .inr ⟨rfl,rfl,fun p r hp => ?_⟩
   obtain ⟨hlt,h2,h3,h4⟩:=key p r hp
   rw [h4,Zo2 (by omega) (by omega) (by omega)] at h1
   cases h1
 ·rw [Zo6 (Zo1 _ _)]
  exact .inr ⟨rfl,rfl,hn⟩
def PSt (N:Int) (l:List UInt8) (o:Bool) (d:Int) (qs:List Int) (l':List UInt8) (o':Bool):Prop:=N≤d∧d≤max N 65535∧((o'=o∧Zbc N l (d,qs) l')∨(o'=true∧l'=[]∧∀ p r,¬ Zbc N l p r))
theorem ZrR {N:Int} {l lk:List UInt8} {o ok:Bool} {d:Int} {m:Nat} {qs:List Int} (h:QSt N l o d m m qs lk ok) (hd0:N≤d) (hd1:d≤max N 65535) (hz:m=0→ok=true∧lk=[]∧∀ p r,¬ Zbc N l p r):PSt N l o d qs lk ok:=by
 refine ⟨hd0,hd1,?_⟩
 obtain ⟨hl,h⟩:=h
 by_cases h0:m=0
 ·exact .inr (hz h0)
 ·rcases h with ⟨rfl,hc,he,hd2,hd3,hr⟩ | h
  ·refine .inl ⟨rfl,⟨hd2,hd3,?_,hr⟩,?_⟩
   ·intro e
    have:qs=[]:=e
    rw [this] at hl;simp at hl;omega
   ·rw [he]
    unfold Zrt
    simp only [List.append_assoc]
    rw [hl]
  ·exact .inr h
theorem Zsc {N:Int} (hN:0≤N) (l:List UInt8) (o:Bool):∀ r1 r2,Zo4 0 (65535 - N) l o=r1→Zo4 1 (min 1048576 (r1.2.1.length:Int)) r1.2.1 r1.2.2=r2 →
  QSt N l o (N+r1.1) r2.1 0 [] r2.2.1 r2.2.2∧(r2.1=0→r2.2.2=true∧r2.2.1=[]∧∀ p r,¬ Zbc N l p r)∧r2.1≤1048576∧N+(r1.1:Int)≤max N 65535:=by
 intro r1 r2 h1 h2
 have b1:=(Zo5 0 (65535 - N) l o).1
 have b2:=(Zo5 1 (min 1048576 (r1.2.1.length:Int)) r1.2.1 r1.2.2).1
 rw [h1] at b1
 rw [h2] at b2
 have key:QSt N l o (N+r1.1) r2.1 0 [] r2.2.1 r2.2.2∧(r2.1=0→r2.2.2=true∧r2.2.1=[]∧∀ p r,¬ Zbc N l p r):=by
  rcases ZoZ 0 (65535 - N) l with ⟨x,l1,e1⟩ | e1
  ·rw [Zo8 e1] at h1
   subst h1
   dsimp only at h2 ⊢
   rcases ZoZ 1 (min 1048576 (l1.length:Int)) l1 with ⟨m,l2,e2⟩ | e2
   ·rw [Zo8 e2] at h2
    subst h2
    refine ⟨Zsf hN e1 e2,fun h => ?_⟩
    have:=(ZoY e2).2.2.2.1
    dsimp only at h
    omega
   ·rw [Zo6 e2] at h2
    subst h2
    exact ⟨⟨rfl,.inr ⟨rfl,rfl,Zse hN e1 e2⟩⟩,fun _=>⟨rfl,rfl,Zse hN e1 e2⟩⟩
  ·rw [Zo6 e1] at h1
   subst h1
   dsimp only at h2 ⊢
   rw [Zo6 (Zo1 _ _)] at h2
   subst h2
   exact ⟨⟨rfl,.inr ⟨rfl,rfl,Zsd hN e1⟩⟩,fun _=>⟨rfl,rfl,Zsd hN e1⟩⟩
 exact ⟨key.1,key.2,by omega,by omega⟩
def DSt (b:List UInt8) (n:Nat) (oh:Bool) (l0:List UInt8) (j:Nat) (ps:List Post) (l:List UInt8) (o:Bool):Prop :=
 (oh=true→o=true)∧ps.length=j∧0≤ZoH 0 ps∧ZoH 0 ps≤65536+j∧((o=false∧Comp b n j ps l∧l0=Zdz 0 ps++l∧okL 0 ps)∨(o=true∧l=[]∧Za5 b))
theorem ZgM {b l0 l:List UInt8} {n:Nat} {hs:List (Nat×Nat)} {o:Bool} (h:HSt b n false l0 (cnt n) hs l o):DSt b n o l 0 [] l o:=by
 refine ⟨fun h=>h,rfl,by simp [ZoH],by simp [ZoH],?_⟩
 obtain ⟨_,h⟩:=h
 rcases h with ⟨rfl,hc,_⟩ | ⟨rfl,rfl,hn⟩
 ·exact .inl ⟨rfl,Zfy hc,rfl,trivial⟩
 ·exact .inr ⟨rfl,rfl,hn⟩
theorem ZoM (ps:List Post) (p:Post):ZoH 0 (ps++[p])=p.1+1:=by rw [ZoI];rfl
theorem ZgN {b l0 l l':List UInt8} {n j:Nat} {ps:List Post} {oh o o':Bool} {d:Int} {qs:List Int} (h:DSt b n oh l0 j ps l o) (hj:j<n) (hp:PSt (ZoH 0 ps) l o d qs l' o'):DSt b n oh l0 (j+1) (ps++[(d,qs)]) l' o':=by
 obtain ⟨hoh,hl,hn0,hn1,h⟩:=h
 obtain ⟨hd0,hd1,hp⟩:=hp
 refine ⟨fun e => ?_,by simp [hl],by rw [ZoM];show 0≤d+1;omega,by rw [ZoM];show d+1≤_;omega,?_⟩
 ·have:=hoh e
  rcases hp with ⟨rfl,_⟩ | ⟨rfl,_⟩
  ·exact this
  ·rfl
 rcases h with ⟨rfl,hc,he,hok⟩ | ⟨rfl,rfl,hn⟩
 ·rcases hp with ⟨rfl,hp⟩ | ⟨rfl,rfl,hp⟩
  ·refine .inl ⟨rfl,Zfz hc hj hok hp,?_,?_⟩
   ·rw [ZdA,Zdz,Zdz,List.append_nil,List.append_assoc,← hp.2];exact he
   ·rw [Zpr]
    exact ⟨hok,hp.1,trivial⟩
  ·exact .inr ⟨rfl,rfl,Zfx hc hj hp⟩
 ·refine .inr ⟨?_,?_,hn⟩
  ·rcases hp with ⟨rfl,_⟩ | ⟨rfl,_⟩<;>rfl
  ·rcases hp with ⟨rfl,hp⟩ | ⟨rfl,rfl,hp⟩
   ·have:=hp.2
    have h2:=(Zru (ZoH 0 ps) (d,qs)).1
    have h3:=congrArg List.length this
    rw [List.length_append,List.length_nil] at h3
    omega
   ·rfl
def HOk (hs:List (Nat×Nat)) (ps:List Post) (i:Nat):Prop:=∀ k,k<i→hs[k]? = some (h1L ps k,h2L ps k)
theorem ZkV (ps:List Post) (q:List Post) (k:Nat) (hk:32*(k+1)≤ps.length):h1L (ps++q) k=h1L ps k∧h2L (ps++q) k=h2L ps k∧endL (ps++q) k=endL ps k:=by
 have e1:(ps++q).take (32*(k+1))=ps.take (32*(k+1)):=List.take_append_of_le_length hk
 have e2:(ps++q).take (32*k)=ps.take (32*k):=List.take_append_of_le_length (by omega)
 unfold h1L h2L endL
 rw [e1,e2]
 exact ⟨rfl,rfl,rfl⟩
theorem ZgK {b l0 l:List UInt8} {n j i:Nat} {ps:List Post} {o:Bool} {hs:List (Nat×Nat)} {lh:List UInt8} {oh oh3:Bool} {lz:List UInt8} (h:DSt b n oh3 l0 j ps l o) (hh:HSt b n false lz (cnt n) hs lh oh) (hj:j=min n (32*(i+1))) (hi:i<cnt n) (x y:Nat) (hx:hs[i]? = some (x,y))
  (S:Nat) (hS:o=false→S+endL ps i=l0.length) (d:Int) (hd:ZoH 0 ps=d+1) :
  (o=false→(x:Int)=d→(y:Int)=(S:Int) - (l.length:Int)→(x,y)=(h1L ps i,h2L ps i))∧(¬ ((x:Int)=d∧(y:Int)=(S:Int) - (l.length:Int))→Za5 b):=by
 obtain ⟨_,hl,hn0,hn1,h⟩:=h
 have hin:32*i<n:=by unfold cnt at hi;omega
 have htk:ps.take (32*(i+1))=ps:=List.take_of_length_le (by omega)
 have key:o=false→(Comp b n j ps l∧l0=Zdz 0 ps++l∧okL 0 ps)→h1L ps i=d.toNat∧(h2L ps i:Int)=(S:Int) - (l.length:Int)∧0≤d:=by
  rintro ho ⟨hc,he,hok⟩
  have hS:=hS ho
  have hnb:=ZoJ ps 0 hok
  have e1:endL ps (i+1)=(Zdz 0 ps).length:=by unfold endL;rw [htk]
  have e2:l0.length=(Zdz 0 ps).length+l.length:=by rw [he,List.length_append]
  have e3:endL ps i≤endL ps (i+1):=by
   rw [e1];exact Zhn i
  have e4:1≤ZoH 0 ps:=by omega
  refine ⟨by unfold h1L;rw [htk,hd];congr 1;omega,by unfold h2L;omega,by omega⟩
 constructor
 ·intro ho hx1 hy1
  rcases h with ⟨_,hc⟩ | ⟨ho2,_⟩
  ·obtain ⟨k1,k2,k3⟩:=key ho hc
   rw [k1]
   exact Prod.ext (by show x=d.toNat;omega) (by show y=h2L ps i;omega)
  ·rw [ho] at ho2;cases ho2
 ·intro hne
  rcases h with ⟨ho,hc⟩ | ⟨_,_,hn⟩
  ·obtain ⟨k1,k2,k3⟩:=key ho hc
   rcases hh.2 with ⟨_,hch,_⟩ | ⟨_,_,hn⟩
   ·intro PS hPS
    obtain ⟨p1,p2,p3⟩:=hc.1 PS hPS
    obtain ⟨q1,q2,q3⟩:=hch PS hPS
    rw [q2,List.getElem?_map,List.getElem?_range hi] at hx
    simp only [Option.map_some,Option.some.injEq,Prod.mk.injEq] at hx
    have ejn:ps.take (32*(i+1))=PS.take (32*(i+1)):=by
     rw [htk,p2,hj]
     by_cases hc2:n≤32*(i+1)
     ·rw [Nat.min_eq_left hc2,← p1,List.take_length,List.take_of_length_le (by omega)]
     ·rw [Nat.min_eq_right (by omega)]
    have ein:ps.take (32*i)=PS.take (32*i):=by
     have:=congrArg (List.take (32*i)) ejn
     rw [List.take_take,List.take_take,Nat.min_eq_left (by omega)] at this
     exact this
    have e1:h1L PS i=h1L ps i:=by unfold h1L;rw [ejn]
    have e2:h2L PS i=h2L ps i:=by unfold h2L endL;rw [ejn,ein]
    apply hne
    rw [← hx.1,← hx.2,e1,e2,k1]
    exact ⟨by omega,k2⟩
   ·exact hn
  ·exact hn
theorem ZlA {ps:List Post} {hs:List (Nat×Nat)}:∀ (c i:Nat),(∀ k,k<c→hs[k]? = some (h1L ps (i+k),h2L ps (i+k)))→hs.length=c→hby hs=Zlq ps i c:=by
 intro c
 induction c generalizing hs with
 | zero=>intro i h hl;have:hs=[]:=List.eq_nil_of_length_eq_zero hl;subst this;rfl
 | succ c ih =>
   intro i h hl
   cases hs with
   | nil=>simp at hl
   | cons x hs =>
     have h0:=h 0 (by omega)
     simp at h0
     subst h0
     rw [Zlq,← ih (i+1) (fun k hk=>by have:=h (k+1) (by omega);simpa [Nat.add_assoc,Nat.add_comm 1 k] using this) (by simpa using hl)]
     simp [hby,Zld]
theorem ZgJ {b l0 lz:List UInt8} {n:Nat} {ps:List Post} {oh:Bool} {hs:List (Nat×Nat)} {m:Int} (hb:numL 0 m b=some (n,lz)) (hh:HSt b n false lz (cnt n) hs l0 oh) (h:DSt b n oh l0 n ps [] false) (hok:HOk hs ps (cnt n)):Dec b ps:=by
 obtain ⟨hoh,hl,hn0,hn1,h⟩:=h
 rcases h with ⟨_,hc,he,hokl⟩ | ⟨ho2,_⟩
 ·rcases hh.2 with ⟨_,hch,hz⟩ | ⟨he2,_,_⟩
  ·refine ⟨(Zmy ps).2 hokl,?_⟩
   have e1:=ZlA (ps:=ps) (hs:=hs) (cnt n) 0 (fun k hk=>by rw [Nat.zero_add];exact hok k hk) hh.1
   have k1:=ZoY hb
   unfold encL
   rw [hl,← e1,List.append_assoc,k1.1,hz,he,List.append_nil]
  ·have:=hoh he2
   cases this
 ·cases ho2
theorem ZgI {b l0 l:List UInt8} {n:Nat} {ps:List Post} {o oh:Bool} (h:DSt b n oh l0 n ps l o) (hbad:o=true∨l≠[]):Za5 b:=by
 obtain ⟨hoh,hl,hn0,hn1,h⟩:=h
 rcases h with ⟨ho,hc,he,hokl⟩ | ⟨_,_,hn⟩
 ·intro PS hPS
  have:=(Zfw hc hPS).2
  rcases hbad with hbad | hbad
  ·rw [ho] at hbad;cases hbad
  ·exact hbad this
 ·exact hn
theorem ZgL {b l0 l:List UInt8} {n j:Nat} {ps:List Post} {o oh:Bool} (h:DSt b n oh l0 j ps l o):l.length≤l0.length:=by
 rcases h.2.2.2.2 with ⟨_,_,he,_⟩ | ⟨_,rfl,_⟩
 ·rw [he,List.length_append];omega
 ·simp
theorem ZlQ {b lz l0:List UInt8} {n i:Nat} {hs:List (Nat×Nat)} {o oh:Bool} (h:HSt b n o lz i hs l0 oh):l0.length≤lz.length:=by
 rcases h.2 with ⟨_,_,he⟩ | ⟨_,rfl,_⟩
 ·rw [he,List.length_append];omega
 ·simp
theorem ZlP {b:List UInt8} (hb:b.length<4611686018427387904):∀ r,Zo4 0 (min 65536 ((b.length / 3:Nat):Int)) b false=r→HSt b r.1 false r.2.1 0 [] r.2.1 r.2.2∧r.1≤65536∧r.2.1.length≤b.length∧(r.2.2=true∨numL 0 (min 65536 ((b.length / 3:Nat):Int)) b=some (r.1,r.2.1)):=by
 intro r hr
 have hbd:=Zo5 0 (min 65536 ((b.length / 3:Nat):Int)) b false
 rw [hr] at hbd
 rcases ZoZ 0 (min 65536 ((b.length / 3:Nat):Int)) b with ⟨n,l,h⟩ | h
 ·rw [Zo8 h] at hr
  subst hr
  exact ⟨ZlR hb h,by dsimp only at hbd ⊢;omega,hbd.2,.inr h⟩
 ·rw [Zo6 h] at hr
  subst hr
  exact ⟨⟨rfl,.inr ⟨rfl,rfl,Zfr rfl h⟩⟩,by simp,by simp,.inl rfl⟩
def ISt (b:List UInt8) (n:Nat) (oh:Bool) (l0:List UInt8) (hs:List (Nat×Nat)) (i S j:Nat) (ps:List Post) (l:List UInt8) (o:Bool):Prop:=DSt b n oh l0 (32*i+j) ps l o∧(o=false→HOk hs ps i∧S+endL ps i=l0.length)
theorem ZmM {b l0 l:List UInt8} {n i:Nat} {oh o:Bool} {hs:List (Nat×Nat)} {ps:List Post} (h:DSt b n oh l0 (min n (32*i)) ps l o) (hi:i<cnt n) (hh:o=false→HOk hs ps i):ISt b n oh l0 hs i l.length 0 ps l o:=by
 have e:min n (32*i)=32*i+0:=by unfold cnt at hi;omega
 rw [e] at h
 refine ⟨h,fun ho=>⟨hh ho,?_⟩⟩
 obtain ⟨_,hl,_,_,h⟩:=h
 rcases h with ⟨_,hc,he,hok⟩ | ⟨ho2,_⟩
 ·unfold endL
  rw [List.take_of_length_le (by omega),he,List.length_append]
  omega
 ·rw [ho] at ho2;cases ho2
theorem ZmN {b l0 l l':List UInt8} {n i S j:Nat} {oh o o':Bool} {hs:List (Nat×Nat)} {ps:List Post} {d:Int} {qs:List Int} (h:ISt b n oh l0 hs i S j ps l o) (hj:32*i+j<n) (hp:PSt (ZoH 0 ps) l o d qs l' o'):ISt b n oh l0 hs i S (j+1) (ps++[(d,qs)]) l' o':=by
 refine ⟨ZgN h.1 hj hp,fun ho => ?_⟩
 have hl:=h.1.2.1
 have ho1:o=false:=by
  rcases hp.2.2 with ⟨e,_⟩ | ⟨e,_⟩
  ·rw [← e];exact ho
  ·rw [ho] at e;cases e
 obtain ⟨h1,h2⟩:=h.2 ho1
 constructor
 ·intro k hk
  obtain ⟨e1,e2,_⟩:=ZkV ps [(d,qs)] k (by omega)
  rw [e1,e2]
  exact h1 k hk
 ·have e2:(ps++[(d,qs)]).take (32*i)=ps.take (32*i):=List.take_append_of_le_length (by omega)
  unfold endL at h2 ⊢
  rw [e2]
  exact h2
theorem ZmL {b l0 lz l:List UInt8} {n i S j:Nat} {oh o oh2:Bool} {hs:List (Nat×Nat)} {ps:List Post} {d:Int} (h:ISt b n oh l0 hs i S j ps l o) (hh:HSt b n false lz (cnt n) hs l0 oh2) (hi:i<cnt n) (hj:32*i+j=min n (32*(i+1))) {x y:Nat} (hx:hs[i]? = some (x,y)) (hd:ZoH 0 ps=d+1) :
  ((x:Int)=d∧(y:Int)=(S:Int) - (l.length:Int)→DSt b n oh l0 (min n (32*(i+1))) ps l o∧(o=false→HOk hs ps (i+1)))∧(¬ ((x:Int)=d∧(y:Int)=(S:Int) - (l.length:Int))→Za5 b):=by
 have key:=ZgK h.1 hh hj hi x y hx S (fun ho=>(h.2 ho).2) d hd
 refine ⟨fun hm=>⟨hj▸h.1,fun ho k hk => ?_⟩,key.2⟩
 by_cases e:k=i
 ·subst e;rw [hx,key.1 ho hm.1 hm.2]
 ·exact (h.2 ho).1 k (by omega)
theorem Zlz (p q:List Post) (h1:∀ k,h1L p k<18446744073709551616∧h2L p k<18446744073709551616) (h2:∀ k,h1L q k<18446744073709551616∧h2L q k<18446744073709551616):∀ (c i:Nat) (l m:List UInt8),Zlq p i c++l=Zlq q i c++m→l=m
 | 0,i,l,m,h=>h
 | c+1,i,l,m,h=>by
   rw [Zlq,Zlq,Zld,Zld] at h
   simp only [List.append_assoc] at h
   obtain ⟨_,h⟩:=Zef (h1 i).1 (h2 i).1 h
   obtain ⟨_,h⟩:=Zef (h1 i).2 (h2 i).2 h
   exact Zlz p q h1 h2 c (i+1) l m h
theorem ZdD:∀ (p q:List Post) (n:Int),0≤n→okL n p→okL n q→p.length=q.length→Zdz n p=Zdz n q→p=q
 | [],[],_,_,_,_,_,_=>rfl
 | [],_::_,_,_,_,_,h,_=>by simp at h
 | _::_,[],_,_,_,_,h,_=>by simp at h
 | a::p,c::q,n,hn,hp,hq,hl,h=>by
   rw [okL] at hp hq
   rw [Zdz,Zdz] at h
   obtain ⟨e1,e2⟩:=Zrp (l:=Zrt n a++Zdz (a.1+1) p) hn ⟨hp.1,rfl⟩ ⟨hq.1,h⟩
   subst e1
   rw [ZdD p q (a.1+1) (by have:=hp.1.1;omega) hp.2 hq.2 (by simpa using hl) e2]
theorem Zge {b:List UInt8} {p q:List Post} (hb:b.length<4611686018427387904) (hp:Dec b p) (hq:Dec b q):p=q:=by
 have a1:=Zgf hp
 have a2:=Zgf hq
 have e:=hp.2.trans hq.2.symm
 unfold encL at e
 simp only [List.append_assoc] at e
 obtain ⟨e1,e2⟩:=Zef (by omega) (by omega) e
 rw [← e1] at e2
 have s1:=fun k=>ZkW hp k
 have s2:=fun k=>ZkW hq k
 have e3:=Zlz p q (fun k=>by have:=s1 k;omega) (fun k=>by have:=s2 k;omega) _ _ _ _ e2
 exact ZdD p q 0 (Int.le_refl _) ((Zmy p).1 hp.1) ((Zmy q).1 hq.1) e1 e3
open Classical in
noncomputable def decO (b:List UInt8):Option (List Post):=if h:∃ ps,Dec b ps then some (Classical.choose h) else none
theorem Zf9 {b:List UInt8} {ps:List Post} (hb:b.length<4611686018427387904) (h:Dec b ps):decO b=some ps:=by
 have he:∃ ps,Dec b ps:=⟨ps,h⟩
 unfold decO
 rw [dif_pos he]
 exact congrArg some (Zge hb (Classical.choose_spec he) h)
theorem Zf8 {b:List UInt8} (h:Za5 b):decO b=none:=by
 unfold decO
 rw [dif_neg (fun he=>by obtain ⟨ps,hp⟩:=he;exact h ps hp)]
end Go.Proofs.YtdijhifdjbnkfaaGreat.PM
