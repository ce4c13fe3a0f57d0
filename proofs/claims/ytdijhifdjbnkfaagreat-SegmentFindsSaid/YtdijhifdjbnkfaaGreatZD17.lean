import Derived.Deep.MidRow
import Derived.Test.YtdijhifdjbnkfaaGreatZD16
set_option maxRecDepth 100000
set_option maxHeartbeats 8000000
set_option linter.unusedVariables false
set_option linter.unusedSimpArgs false
namespace Go.Proofs.YtdijhifdjbnkfaaGreat.RT
open Go Go.RowKit MM
inductive Plan (α:Type) where
 | done:Plan α
 | take (i:α) (r:Plan α):Plan α
 | alone (i:α) (r:Plan α):Plan α
 | both (i j:α) (r s:Plan α):Plan α
def Plan.len {α:Type}:Plan α→Nat
 | .done=>0
 | .take _ r=>r.len+1
 | .alone _ r=>r.len+1
 | .both _ _ r _=>r.len+1
section
variable {T : Nat → Prop} {P : Program} {ops : Array Oper} {Q : Exit → Act → World → Prop} {md : Region.Mode}
theorem ZlK {S S':World→Prop} (hS:∀ w,S' w→S w):∀ (fuel:Nat) (listed:Array Bool) (a:Act) (w:World),wpAnyH P md ops Q S' fuel listed a w→wpAnyH P md ops Q S fuel listed a w
 | 0,_,_,_,h=>h
 | fuel+1,_,_,_,h=>⟨h.1,fun i hi=>wpOp_mono (fun a' w' h'=>⟨hS _ h'.1,ZlK hS fuel _ a' w' h'.2⟩) (h.2 i hi)⟩
def Way (p:Prop):Prop:=p
theorem Way.out {p:Prop} (h:Way p):p:=h
def Step (T:Nat→Prop) (P:Program) (ops:Array Oper) (Q:Exit→Act→World→Prop) (o:Option Oper) (N:Act→World→Prop) (a:Act) (w:World):Prop :=
 match o with
 | some o=>∀ K:Act→World→Prop,(∀ a' w',Kep T w w'→N a' w'→K a' w')→if Region.wanted o (yielded ops a.tmps)=true then o.wp P a w K Q else K (a.put o.dst undef) w
 | none=>False
def walk (T:Nat→Prop) (P:Program) (ops:Array Oper) (Q:Exit→Act→World→Prop):Plan (Option Oper)→Act→World→Prop
 | .done,a,w=>Q .normal a w
 | .take (some o) r,a,w=>∃ v,YieldsIf P ops (Kep T w) o v a∧walk T P ops Q r (a.put o.dst v) w
 | .take none _,_,_=>False
 | .alone o r,a,w=>Step T P ops Q o (walk T P ops Q r) a w
 | .both o o' r s,a,w=>Step T P ops Q o (walk T P ops Q r) a w∧Step T P ops Q o' (walk T P ops Q s) a w
def ZpY (ops:Array Oper):Plan Nat→Plan (Option Oper)
 | .done=>.done
 | .take i r=>.take ops[i]? (ZpY ops r)
 | .alone i r=>.alone ops[i]? (ZpY ops r)
 | .both i j r s=>.both ops[i]? ops[j]? (ZpY ops r) (ZpY ops s)
def Zrd (md:Region.Mode) (ops:Array Oper):Plan Nat→Array Bool→Bool
 | .done,listed=>(Region.ready md ops listed).isEmpty
 | .take i r,listed=>Region.free md ops listed i&&(Region.ready md ops listed).contains i&&Zrd md ops r (listed.setIfInBounds i true)
 | .alone i r,listed=>(Region.ready md ops listed == [i])&&Zrd md ops r (listed.setIfInBounds i true)
 | .both i j r s,listed=>(Region.ready md ops listed == [i,j])&&(r.len == s.len)&&Zrd md ops r (listed.setIfInBounds i true)&&Zrd md ops s (listed.setIfInBounds j true)
theorem ZlJ (hs:Region.noSelect ops=true) (hQ:∀ c a d v w,Q (.panic c) (Act.put a d v) w→Q (.panic c) a w) :
  ∀ (l:Plan Nat) (listed:Array Bool) (a:Act) (w:World),Zrd md ops l listed=true→walk T P ops Q (ZpY ops l) a w→wpAnyH P md ops Q (Kep T w) l.len listed a w
 | .done,listed,a,w,hp,h=>⟨by simpa [Zrd] using hp,h⟩
 | .take i r,listed,a,w,hp,h=>by
   have h':walk T P ops Q (.take ops[i]? (ZpY ops r)) a w:=h
   cases ho:ops[i]? with
   | none=>rw [ho] at h';exact h'.elim
   | some o =>
     rw [ho] at h'
     obtain ⟨v,hy,hr⟩:=h'
     simp only [Zrd,Bool.and_eq_true] at hp
     exact wpAnyH_take ho hs hp.1.1 hp.1.2 (fun c a w=>hQ c a _ _ w) hy (Kep.refl _ w) (ZlJ hs hQ r _ _ _ hp.2 hr)
 | .alone i r,listed,a,w,hp,h=>by
   have h':Step T P ops Q ops[i]? (walk T P ops Q (ZpY ops r)) a w:=h
   cases ho:ops[i]? with
   | none=>rw [ho] at h';exact h'.elim
   | some o =>
     rw [ho] at h'
     simp only [Zrd,Bool.and_eq_true] at hp
     refine wpAnyH_all (rs:=[i]) (by simpa using hp.1) (by simp) (fun j hj => ?_)
     obtain rfl:j=i:=by simpa using hj
     exact wpOp_step ho (fun K hK=>h' K (fun a' w' h1 h2=>hK a' w' ⟨h1,ZlK (fun W hW=>h1.trans hW) _ _ _ _ (ZlJ hs hQ r _ _ _ hp.2 h2)⟩))
 | .both i j r s,listed,a,w,hp,h=>by
   have h':Step T P ops Q ops[i]? (walk T P ops Q (ZpY ops r)) a w∧Step T P ops Q ops[j]? (walk T P ops Q (ZpY ops s)) a w:=h
   obtain ⟨h1,h2⟩:=h'
   simp only [Zrd,Bool.and_eq_true,beq_iff_eq] at hp
   cases ho:ops[i]? with
   | none=>rw [ho] at h1;exact h1.elim
   | some o =>
     cases ho':ops[j]? with
     | none=>rw [ho'] at h2;exact h2.elim
     | some o' =>
       rw [ho] at h1
       rw [ho'] at h2
       refine wpAnyH_all (rs:=[i,j]) (by simpa using hp.1.1.1) (by simp) (fun k hk => ?_)
       simp only [List.mem_cons,List.not_mem_nil,or_false] at hk
       rcases hk with rfl | rfl
       ·exact wpOp_step ho (fun K hK=>h1 K (fun a' w' g1 g2=>hK a' w' ⟨g1,ZlK (fun W hW=>g1.trans hW) _ _ _ _ (ZlJ hs hQ r _ _ _ hp.1.2 g2)⟩))
       ·refine wpOp_step ho' (fun K hK=>h2 K (fun a' w' g1 g2=>hK a' w' ⟨g1,ZlK (fun W hW=>g1.trans hW) _ _ _ _ ?_⟩))
        rw [hp.1.1.2]
        exact ZlJ hs hQ s _ _ _ hp.2 g2
theorem ZcJ (l:Plan Nat) {id:Nat} {a:Act} {w:World} (hm:P.follows .mixedOrders=true) (hs:Region.noSelect ops=true) (hl:l.len=ops.size)
  (hp:Zrd .any ops l (Array.replicate ops.size false)=true) (hQ:∀ c a d v w,Q (.panic c) (Act.put a d v) w→Q (.panic c) a w)
  (h:walk T P ops Q (ZpY ops l) a w.drew):(Code.region id ops true).wp P Q a w:=by
 refine wp_region_held (S:=Kep T w.drew) hm ?_
 rw [← hl]
 have:=ZlJ (md:=.any) hs hQ l (Array.replicate ops.size false) a w.drew hp h
 rw [← hl] at this
 exact this
theorem take {r:Plan (Option Oper)} {a:Act} {w:World} {o:Oper} {v:Value} (hw:Region.wanted o (yielded ops a.tmps)=true)
  (hy:∀ W,Kep T w W→(execOp a.eval o).run P W=.ok (.value v) W) (h:walk T P ops Q r (a.put o.dst v) w):walk T P ops Q (.take (some o) r) a w :=
 ⟨v,.inl ⟨hw,hy⟩,h⟩
theorem skip {r:Plan (Option Oper)} {a:Act} {w:World} {o:Oper} (hw:Region.wanted o (yielded ops a.tmps)=false)
  (h:walk T P ops Q r (a.put o.dst undef) w):walk T P ops Q (.take (some o) r) a w :=
 ⟨undef,.inr ⟨hw,rfl⟩,h⟩
theorem step {N:Act→World→Prop} {a:Act} {w:World} {o:Oper} (hw:Region.wanted o (yielded ops a.tmps)=true)
  (h:∀ K:Act→World→Prop,Way (∀ a' w',Kep T w w'→N a' w'→K a' w')→o.wp P a w K Q):Step T P ops Q (some o) N a w:=by
 intro K hK
 rw [if_pos hw]
 exact h K hK
theorem alone {r:Plan (Option Oper)} {a:Act} {w:World} {o:Oper} (h:Step T P ops Q (some o) (walk T P ops Q r) a w):walk T P ops Q (.alone (some o) r) a w:=h
theorem both {r s:Plan (Option Oper)} {a:Act} {w:World} {o o':Oper} (h:Step T P ops Q (some o) (walk T P ops Q r) a w) (h':Step T P ops Q (some o') (walk T P ops Q s) a w):walk T P ops Q (.both (some o) (some o') r s) a w:=⟨h,h'⟩
theorem done {a:Act} {w:World} (h:Q .normal a w):walk T P ops Q .done a w:=h
end
end Go.Proofs.YtdijhifdjbnkfaaGreat.RT
namespace Go.Proofs.YtdijhifdjbnkfaaGreat.PW
open Go.RowKit MM PM
theorem Zl7:(Tryz.prog.info? 125).map (fun i=>(i.zero,i.size,i.bytes))=some (some (.agg #[.int .i64 0,.slice none 0 0]),2,32):=by kernel_rfl
def IOn (S:Nat→Prop) (w:World) (v:Value) (zs:List Int):Prop :=
 ∃ (p:Option Addr) (cap:Nat),v=.slice p zs.length cap∧zs.length≤cap∧cap≤maxLen∧(p=none→cap=0) ∧
   (zs=[]∨∃ b off,p=some ⟨b,off,none⟩∧b<w.heap.size∧S b∧∀ i (h:i<zs.length),w.cell? ⟨b,off+i,none⟩=some (.int .i64 zs[i]))
theorem IOn.keep {S T:Nat→Prop} {w w':World} {v:Value} {zs:List Int} (h:IOn S w v zs) (hk:Kep S w w') (hT:∀ b,b<w.heap.size→S b→T b):IOn T w' v zs:=by
 obtain ⟨p,cap,hv,h1,h2,h3,h⟩:=h
 refine ⟨p,cap,hv,h1,h2,h3,?_⟩
 rcases h with h | ⟨b,off,hp,hlt,hS,hc⟩
 ·exact .inl h
 ·exact .inr ⟨b,off,hp,Nat.lt_of_lt_of_le hlt hk.size,hT b hlt hS,fun i hi=>by rw [hk.cell hlt hS];exact hc i hi⟩
theorem IOn.weak {S T:Nat→Prop} {w:World} {v:Value} {zs:List Int} (h:IOn S w v zs) (hT:∀ b,b<w.heap.size→S b→T b):IOn T w v zs:=h.keep (Kep.refl _ _) hT
theorem Zmt {B:Nat} {w:World} {v:Value} {zs:List Int} (h:Zbm B w v (zs.map (Value.int .i64))) (hB:B≤w.heap.size):IOn (fun b=>b<B) w v zs:=by
 obtain ⟨p,cap,hv,h1,h2,h3,h⟩:=h
 rw [List.length_map] at hv h1
 refine ⟨p,cap,hv,h1,h2,h3,?_⟩
 rcases h with h | ⟨b,off,hp,hlt,hc⟩
 ·exact .inl (List.map_eq_nil_iff.1 h)
 ·exact .inr ⟨b,off,hp,Nat.lt_of_lt_of_le hlt hB,hlt,fun i hi=>hc i _ (by rw [List.getElem?_map,List.getElem?_eq_getElem hi];rfl)⟩
theorem IOn.shape {S:Nat→Prop} {w:World} {v:Value} {zs:List Int} (h:IOn S w v zs):∃ p cap,v=.slice p zs.length cap∧zs.length≤cap∧cap≤maxLen∧(p=none→cap=0):=by
 obtain ⟨p,cap,hv,h1,h2,h3,_⟩:=h
 exact ⟨p,cap,hv,h1,h2,h3⟩
theorem IOn.nil_ (S:Nat→Prop) (w:World):IOn S w (.slice none 0 0) []:=⟨none,0,rfl,Nat.le_refl _,by unfold maxLen;omega,fun _=>rfl,.inl rfl⟩
theorem IOn.at_ {S:Nat→Prop} {w:World} {p:Option Addr} {n cap:Nat} {zs:List Int} (h:IOn S w (.slice p n cap) zs) {k:Nat} (hk:k<zs.length) :
  ∃ b off,p=some ⟨b,off,none⟩∧b<w.heap.size∧S b∧w.cell? ⟨b,off+k,none⟩=some (.int .i64 zs[k]):=by
 obtain ⟨p',cap',hv,_,_,_,h⟩:=h
 simp only [Value.slice.injEq] at hv
 obtain ⟨rfl,_,_⟩:=hv
 rcases h with h | ⟨b,off,hp,hlt,hS,hc⟩
 ·subst h;simp at hk
 ·exact ⟨b,off,hp,hlt,hS,hc k hk⟩
theorem IOn.take {S:Nat→Prop} {w:World} {p:Option Addr} {n cap:Nat} {zs:List Int} (h:IOn S w (.slice p n cap) zs) (k:Nat) (hk:k≤n):IOn S w (.slice p k cap) (zs.take k):=by
 obtain ⟨p',cap',hv,h1,h2,h3,h⟩:=h
 simp only [Value.slice.injEq] at hv
 obtain ⟨rfl,rfl,rfl⟩:=hv
 have hl:(zs.take k).length=k:=by rw [List.length_take];omega
 refine ⟨_,_,by rw [hl],by omega,by omega,h3,?_⟩
 rcases h with h | ⟨b,off,rfl,hlt,hS,hc⟩
 ·subst h;left;simp
 ·right
  exact ⟨b,off,rfl,hlt,hS,fun i hi=>by rw [List.getElem_take];exact hc i (by omega)⟩
def rawC (xs:List (Int×Value)):List Value:=xs.flatMap fun t=>[.int .i64 t.1,t.2]
theorem Zsx (xs:List (Int×Value)):(rawC xs).length=xs.length*2:=by
 induction xs with
 | nil=>rfl
 | cons t ts ih =>
   have e:rawC (t::ts)=[.int .i64 t.1,t.2]++rawC ts:=rfl
   rw [e,List.length_append,ih,List.length_cons]
   simp;omega
theorem Zsv (a b:List (Int×Value)):rawC (a++b)=rawC a++rawC b:=by simp [rawC]
theorem Zsw:∀ (xs:List (Int×Value)) (i:Nat) (h:i<xs.length),(rawC xs)[i*2]? = some (.int .i64 xs[i].1)∧(rawC xs)[i*2+1]? = some xs[i].2
 | t::ts,0,_=>⟨rfl,rfl⟩
 | t::ts,i+1,h=>by
   have:=Zsw ts i (by simpa using h)
   have e:rawC (t::ts)=.int .i64 t.1::t.2::rawC ts:=rfl
   rw [e,show (i+1)*2=i*2+1+1 by omega]
   simpa using this
def Za2 (S:Nat→Prop) (w:World) (xs:List (Int×Value)) (ps:List Post):Prop:=xs.length=ps.length∧∀ i (h:i<xs.length) (h':i<ps.length),xs[i].1=ps[i].1∧IOn S w xs[i].2 ps[i].2
theorem Za2.keep {S T:Nat→Prop} {w w':World} {xs:List (Int×Value)} {ps:List Post} (h:Za2 S w xs ps) (hk:Kep S w w') (hT:∀ b,b<w.heap.size→S b→T b):Za2 T w' xs ps :=
 ⟨h.1,fun i hi hi'=>⟨(h.2 i hi hi').1,(h.2 i hi hi').2.keep hk hT⟩⟩
theorem Za2.snoc {S:Nat→Prop} {w:World} {xs:List (Int×Value)} {ps:List Post} (h:Za2 S w xs ps) {z:Int} {x:Value} {qs:List Int} (hx:IOn S w x qs):Za2 S w (xs++[(z,x)]) (ps++[(z,qs)]):=by
 refine ⟨by rw [List.length_append,List.length_append,h.1];rfl,fun i hi hi' => ?_⟩
 rw [List.length_append,List.length_singleton] at hi hi'
 by_cases hlt:i<xs.length
 ·rw [List.getElem_append_left hlt,List.getElem_append_left (by rw [← h.1];exact hlt)]
  exact h.2 i hlt (by rw [← h.1];exact hlt)
 ·obtain rfl:i=xs.length:=by omega
  have e:=h.1
  have e1:(xs++[(z,x)])[xs.length]'(by simp)=(z,x):=by simp
  have e2:(ps++[(z,qs)])[xs.length]'(by simp [e])=(z,qs):=by simp [e]
  rw [e1,e2]
  exact ⟨rfl,hx⟩
theorem Za2.append {S:Nat→Prop} {w:World} {xs ys:List (Int×Value)} {ps qs:List Post} (h:Za2 S w xs ps) (k:Za2 S w ys qs):Za2 S w (xs++ys) (ps++qs):=by
 refine ⟨by rw [List.length_append,List.length_append,h.1,k.1],fun i hi hi' => ?_⟩
 by_cases hlt:i<xs.length
 ·rw [List.getElem_append_left hlt,List.getElem_append_left (by rw [← h.1];exact hlt)]
  exact h.2 i hlt (by rw [← h.1];exact hlt)
 ·rw [List.length_append] at hi hi'
  have e:=h.1
  rw [List.getElem_append_right (by omega),List.getElem_append_right (by omega)]
  simp only [← e]
  exact k.2 (i - xs.length) (by omega) (by omega)
def POn (S:Nat→Prop) (w:World) (v:Value) (ps:List Post):Prop :=
 ∃ (p:Option Addr) (cap:Nat) (xs:List (Int×Value)),v=.slice p ps.length cap∧ps.length≤cap∧cap≤maxLen∧(p=none→cap=0)∧Za2 S w xs ps ∧
   (ps=[]∨∃ b off,p=some ⟨b,off,none⟩∧b<w.heap.size∧S b∧∀ i (h:i<xs.length),w.cell? ⟨b,off+i*2,none⟩=some (.int .i64 xs[i].1)∧w.cell? ⟨b,off+i*2+1,none⟩=some xs[i].2)
theorem POn.keep {S T:Nat→Prop} {w w':World} {v:Value} {ps:List Post} (h:POn S w v ps) (hk:Kep S w w') (hT:∀ b,b<w.heap.size→S b→T b):POn T w' v ps:=by
 obtain ⟨p,cap,xs,hv,h1,h2,h3,hm,h⟩:=h
 refine ⟨p,cap,xs,hv,h1,h2,h3,hm.keep hk hT,?_⟩
 rcases h with h | ⟨b,off,hp,hlt,hS,hc⟩
 ·exact .inl h
 ·exact .inr ⟨b,off,hp,Nat.lt_of_lt_of_le hlt hk.size,hT b hlt hS,fun i hi=>by rw [hk.cell hlt hS,hk.cell hlt hS];exact hc i hi⟩
theorem POn.weak {S T:Nat→Prop} {w:World} {v:Value} {ps:List Post} (h:POn S w v ps) (hT:∀ b,b<w.heap.size→S b→T b):POn T w v ps:=h.keep (Kep.refl _ _) hT
def PRow (w:World) (v:Value) (ps:List Post):Prop:=POn (fun _=>True) w v ps
theorem POn.row {S:Nat→Prop} {w:World} {v:Value} {ps:List Post} (h:POn S w v ps):PRow w v ps:=h.weak fun _ _ _=>trivial
theorem PRow.below {w w':World} {v:Value} {ps:List Post} (h:PRow w v ps) (hb:Below w.heap.size w w'):PRow w' v ps:=h.keep (ZmT _ hb) fun _ _ h=>h
theorem PRow.pon {w:World} {v:Value} {ps:List Post} (h:PRow w v ps):POn (fun b=>b<w.heap.size) w v ps:=h.weak fun _ h _=>h
def PIn (B:Nat) (w:World) (v:Value) (ps:List Post):Prop:=POn (fun b=>b<B) w v ps
theorem PIn.below {B:Nat} {w w':World} {v:Value} {ps:List Post} (h:PIn B w v ps) (hb:Below B w w'):PIn B w' v ps :=
 h.keep ⟨hb.os,hb.tape,hb.output,hb.size,fun k _ hk=>hb.block k hk⟩ fun _ _ h=>h
theorem POn.shape {S:Nat→Prop} {w:World} {v:Value} {ps:List Post} (h:POn S w v ps):∃ p cap,v=.slice p ps.length cap∧ps.length≤cap∧cap≤maxLen∧(p=none→cap=0):=by
 obtain ⟨p,cap,xs,hv,h1,h2,h3,_⟩:=h
 exact ⟨p,cap,hv,h1,h2,h3⟩
theorem POn.at_ {S:Nat→Prop} {w:World} {p:Option Addr} {n cap:Nat} {ps:List Post} (h:POn S w (.slice p n cap) ps) {k:Nat} (hk:k<ps.length) :
  ∃ b off x,p=some ⟨b,off,none⟩∧b<w.heap.size∧S b∧w.cell? ⟨b,off+k*2,none⟩=some (.int .i64 ps[k].1)∧w.cell? ⟨b,off+k*2+1,none⟩=some x∧IOn S w x ps[k].2:=by
 obtain ⟨p',cap',xs,hv,_,_,_,hm,h⟩:=h
 simp only [Value.slice.injEq] at hv
 obtain ⟨rfl,_,_⟩:=hv
 rcases h with h | ⟨b,off,hp,hlt,hS,hc⟩
 ·subst h;simp at hk
 ·have hk':k<xs.length:=by rw [hm.1];exact hk
  have h1:=hm.2 k hk' hk
  have h2:=hc k hk'
  exact ⟨b,off,xs[k].2,hp,hlt,hS,by rw [← h1.1];exact h2.1,h2.2,h1.2⟩
theorem POn.nil_ (S:Nat→Prop) (w:World):POn S w (.slice none 0 0) []:=⟨none,0,[],rfl,Nat.le_refl _,by unfold maxLen;omega,fun _=>rfl,⟨rfl,fun i h=>by simp at h⟩,.inl rfl⟩
def Apt (B:Nat) (w:World) (b:Nat):Prop:=b<B∨∀ cur fr,w.heap[b]? ≠ some (.cells cur 125 fr)
theorem Zcr {B:Nat} {w w':World} {b:Nat} (h:Apt B w b) (hb:w'.heap[b]? = w.heap[b]?):Apt B w' b:=by
 rcases h with h | h
 ·exact .inl h
 ·exact .inr fun cur fr=>by rw [hb];exact h cur fr
def OwnP (B:Nat) (w:World) (v:Value) (ps:List Post):Prop:=∃ xs,w.ownsRow B 125 2 v xs.length (rawC xs)∧Za2 (Apt B w) w xs ps
theorem OwnP.keep {B:Nat} {w w':World} {v:Value} {ps:List Post} (h:OwnP B w v ps) (hb:Below w.heap.size w w'):OwnP B w' v ps:=by
 obtain ⟨xs,h1,h2⟩:=h
 exact ⟨xs,Zqe (B:=0) h1 hb,h2.keep (ZmT _ hb) fun b hlt hA=>Zcr hA (hb.block b hlt)⟩
theorem OwnP.prow {B:Nat} {w:World} {v:Value} {ps:List Post} (h:OwnP B w v ps):PRow w v ps:=by
 obtain ⟨xs,h1,h2⟩:=h
 have hl:=h2.1
 rcases h1.2 with ⟨rfl,h0⟩ | ⟨g,cap,cur,rfl,hg,hh,hnc,hm,hs,ht⟩
 ·have:ps=[]:=List.eq_nil_of_length_eq_zero (by omega)
  subst this
  exact POn.nil_ _ _
 ·refine ⟨some ⟨g,0,none⟩,cap,xs,by rw [hl],by omega,hm,(fun h=>by cases h),h2.keep (Kep.refl _ _) (fun _ _ _=>trivial),.inr ⟨g,0,rfl,(Array.getElem?_eq_some_iff.1 hh).1,trivial,fun i hi => ?_⟩⟩
  have hget:=Zsw xs i hi
  have key:∀ j u,(rawC xs)[j]? = some u→w.cell? ⟨g,0+j,none⟩=some u:=fun j u hj=>by
   have:=Lib.cells_of_row hh (xs.length*2) j u (by rw [ht];exact hj)
   rw [Zb5] at this
   exact this
  exact ⟨key _ _ hget.1,by have:=key _ _ hget.2;rw [← Nat.add_assoc] at this;exact this⟩
theorem OwnP.shape {B:Nat} {w:World} {v:Value} {ps:List Post} (h:OwnP B w v ps):∃ p cap,v=.slice p ps.length cap∧ps.length≤cap∧cap≤maxLen∧(p=none→cap=0):=h.prow.shape
theorem Zqn {B n:Nat} {w:World} {v:Value} {xs:List Value} (h:w.ownsRow B 125 2 v n xs) {g:Nat} (hg:v.ownBlock=some g):B≤g∧∃ cur fr,w.heap[g]? = some (.cells cur 125 fr):=by
 rcases h.2 with ⟨rfl,h0⟩ | ⟨g',cap,cur,rfl,hg',hh,_⟩
 ·cases hg
 ·have:g'=g:=Option.some.inj hg
  subst this
  exact ⟨hg',cur,_,hh⟩
theorem Zcs {B n:Nat} {w:World} {v:Value} {xs:List Value} (h:w.ownsRow B 125 2 v n xs) {b:Nat} (ha:Apt B w b):v.ownBlock≠some b:=by
 intro e
 obtain ⟨h1,cur,fr,h2⟩:=Zqn h e
 rcases ha with ha | ha
 ·omega
 ·exact ha cur fr h2
theorem Zep (w:World) (x y:Value) (t:TypeId):∀ j u,[x,y][j]? = some u→(w.alloc (.cells #[x,y] t)).cell? ((⟨w.heap.size,0,none⟩:Addr).add j)=some u:=by
 intro j u hj
 match j,hj with
 | 0,hj=>simp at hj;subst hj;simp [Addr.add]
 | 1,hj=>simp at hj;subst hj;simp [Addr.add]
 | (j+2),hj=>simp at hj
theorem OwnP.alloc {B:Nat} {w:World} {v:Value} {ps:List Post} (h:OwnP B w v ps) (o:Obj):OwnP B (w.alloc o) v ps:=h.keep ((Below.refl _ _).alloc (Nat.le_refl _) o)
theorem ZcM {B:Nat} {a w:World} (h:Below B a w) {g o:Nat} (hg:B≤g) (vs:List Value):Below B a (w.setCells g o vs):=by
 induction vs generalizing w o with
 | nil=>exact h
 | cons v vs ih=>exact ih (h.setCell (p:=⟨g,o,none⟩) hg v)
theorem ZmU {S:Nat→Prop} {w:World} {g:Nat} (hg:¬ S g) (vs:List Value) (o:Nat):Kep S w (w.setCells g o vs):=by
 induction vs generalizing w o with
 | nil=>exact Kep.refl _ _
 | cons v vs ih=>exact (ZmZ hg v).trans (ih _)
def ZaS (w:World) (g n:Nat) (xs:List (Int×Value)):Prop:=g<w.heap.size∧w.there g 0 (n*2)∧w.rangeAt g 0 (rawC xs)
theorem Zk1 {B:Nat} {w:World} {g n:Nat} {xs:List Value} (h:w.ownsRow B 125 2 (.slice (some ⟨g,0,none⟩) n n) n xs):ZaS w g n []:=by
 rcases h.2 with ⟨hv,_⟩ | ⟨g',cap,cur,hv,hb,hh,hn,hm,hs,ht⟩
 ·cases hv
 ·simp only [Value.slice.injEq,Option.some.injEq,Addr.mk.injEq] at hv
  obtain ⟨⟨rfl,_⟩,_,rfl⟩:=hv
  refine ⟨(Array.getElem?_eq_some_iff.1 hh).1,fun j hj=>⟨?_,frozen_of_row w g _ cur _ hh⟩,fun j v hj=>by simp [rawC] at hj⟩
  have hx:∃ u,(cur.toList.take (n*2))[j]? = some u:=⟨_,List.getElem?_eq_getElem (by rw [List.length_take,Array.length_toList];omega)⟩
  obtain ⟨u,hu⟩:=hx
  have:=Lib.cells_of_row hh (n*2) j u hu
  rw [Zb5] at this
  rw [this];rfl
theorem ZaS.next {w:World} {g n:Nat} {xs:List (Int×Value)} (h:ZaS w g n xs) (hk:xs.length<n) (p:Int) (x:Value) :
  ZaS (w.setCells g (xs.length*2) [.int .i64 p,x]) g n (xs++[(p,x)]):=by
 obtain ⟨h2,h3,h4⟩:=h
 have ht:w.there g (xs.length*2) [Value.int .i64 p,x].length:=fun j hj=>by
  have:=h3 (xs.length*2+j) (by simp at hj;omega)
  rw [Nat.zero_add] at this
  exact this
 refine ⟨?_,World.there_setCells h3 _ _ _,?_⟩
 ·exact Nat.lt_of_lt_of_le h2 (ZcM (Below.refl 0 w) (Nat.zero_le _) _).size
 ·have e1:=World.rangeAt_setCells_apart h4 g (xs.length*2) [.int .i64 p,x] (.inr (.inl (by rw [Zsx];omega)))
  have e2:=World.rangeAt_setCells_same w g (xs.length*2) _ ht
  intro j v hj
  rw [Zsv] at hj
  by_cases hlt:j<xs.length*2
  ·rw [List.getElem?_append_left (by rw [Zsx];exact hlt)] at hj
   exact e1 j v hj
  ·rw [List.getElem?_append_right (by rw [Zsx];omega),Zsx] at hj
   have:=e2 (j - xs.length*2) v hj
   rw [show xs.length*2+(j - xs.length*2)=0+j by omega] at this
   exact this
theorem ZaS.keep {S:Nat→Prop} {w w':World} {g n:Nat} {xs:List (Int×Value)} (h:ZaS w g n xs) (hk:Kep S w w') (hg:S g):ZaS w' g n xs:=by
 obtain ⟨h2,h3,h4⟩:=h
 have hb:=hk.block g h2 hg
 refine ⟨Nat.lt_of_lt_of_le h2 hk.size,fun j hj => ?_,fun j v hj => ?_⟩
 ·have:=h3 j hj
  rw [World.cell?_of_block (a:=⟨g,0+j,none⟩) hb]
  refine ⟨this.1,?_⟩
  have h5:=this.2
  unfold World.frozen? at h5 ⊢
  simp only [hb]
  exact h5
 ·rw [World.cell?_of_block (a:=⟨g,0+j,none⟩) hb]
  exact h4 j v hj
end Go.Proofs.YtdijhifdjbnkfaaGreat.PW
namespace Go.Proofs.YtdijhifdjbnkfaaGreat.PW
open Go.RowKit MM PM
theorem Zty (v:Value) (zs:List Int) (fin:Int) (w:World) (hr:IOn (fun _=>True) w v zs):Calls Tryz.prog 239 #[v,.int .i64 fin] w fun e w'=>e=.returned (.bool (Zto fin zs))∧w=w':=by
 obtain ⟨p,cap,rfl,hlc,hcm,_⟩:=hr.shape
 unfold maxLen at hcm
 have HR:=Lib.hid hr
 obtain ⟨RES,hRES⟩:∃ RES,Zto fin zs=RES:=⟨_,rfl⟩
 have HE:=Lib.hid hRES
 have H0:Hid (∀ k,k<0→ZrM (-1) zs k<zs.getD k 0∧zs.getD k 0<fin):=Lib.hid (fun k hk=>by omega)
 have HP0:Hid (ZrM (-1) zs 0 = -1):=Lib.hid rfl
 rw [hRES]
 clear hr hRES
 go_enter Tryz.func239,Tryz.ntmps239
 go_wp2_with fail
 go_loop [5,10] (fun a i=>∃ (k:Nat) (A:Int),k≤zs.length∧i=.int .i64 k∧a=.int .i64 A∧Hid (ZrM (-1) zs k=A)∧Hid (∀ j,j<k→ZrM (-1) zs j<zs.getD j 0∧zs.getD j 0<fin)) (fun _ i=>zs.length - (intOf i).toNat)
 case atStart=>exact ⟨0, -1,by omega,rfl,rfl,HP0,H0⟩
 case round =>
  obtain ⟨k,A,hk,rfl,rfl,HP,HA⟩:=hrel
  clear H0 HP0
  by_cases hlt:k<zs.length
  ·have t1:decide ((k:Int)<(zs.length:Int))=true:=by simp;omega
   obtain ⟨b,off,rfl,hbl,_,hcell⟩:=HR.out.at_ hlt
   have hg:zs.getD k 0=zs[k]:=by simp [hlt]
   obtain ⟨z,hz⟩:∃ z,zs[k]=z:=⟨_,rfl⟩
   rw [hz] at hcell hg
   have HG:=Lib.hid hg
   have HLT:=Lib.hid hlt
   clear hz hg
   by_cases h1:z≤A
   ·have t2:decide (z≤A)=true:=by simpa using h1
    have hf:RES=false:=by
     rw [← HE.out,Bool.eq_false_iff]
     intro hc
     have:=((Ztp fin zs).1 hc k HLT.out).1
     rw [HP.out,HG.out] at this
     omega
    subst hf
    clear HA h1
    go_wp2_with fail
    go_ret
    exact ⟨rfl,rfl⟩
   ·have t2:decide (z≤A)=false:=by simpa using h1
    by_cases h2:z≥fin
    ·have t3:decide (z≥fin)=true:=by simpa using h2
     have hf:RES=false:=by
      rw [← HE.out,Bool.eq_false_iff]
      intro hc
      have:=((Ztp fin zs).1 hc k HLT.out).2
      rw [HG.out] at this
      omega
     subst hf
     clear HA h1 h2
     go_wp2_with fail
     go_ret
     exact ⟨rfl,rfl⟩
    ·have t3:decide (z≥fin)=false:=by simpa using h2
     have HA2:Hid (∀ j,j<k+1→ZrM (-1) zs j<zs.getD j 0∧zs.getD j 0<fin):=Lib.hid (fun j hj=>by
      by_cases e:j=k
      ·subst e
       rw [HP.out,HG.out]
       omega
      ·exact HA.out j (by omega))
     have HP2:Hid (ZrM (-1) zs (k+1)=z):=Lib.hid HG.out
     clear HA h1 h2
     go_wp2_with fail
     go_round
     case rel=>exact ⟨k+1,z,by omega,by go_num,rfl,HP2,HA2⟩
     case measure=>simp [intOf];omega
  ·obtain rfl:k=zs.length:=by omega
   have t1:decide ((zs.length:Int)<(zs.length:Int))=false:=by simp
   have hf:RES=true:=by rw [← HE.out,Ztp];exact HA.out
   subst hf
   clear HA
   go_wp2_with fail
   go_ret
   exact ⟨rfl,rfl⟩
theorem Zpm (z:Int) (x:Value) (qs:List Int) (w:World) (hr:IOn (fun _=>True) w x qs):Calls Tryz.prog 242 #[.agg #[.int .i64 z,x]] w fun e w'=>e=.returned (.bool (oddL (z,qs)))∧Below w.heap.size w w':=by
 obtain ⟨p,cap,rfl,hlc,hcm,_⟩:=hr.shape
 unfold maxLen at hcm
 have HR:=Lib.hid (fun W (hb:Below w.heap.size w W)=>Zty _ qs 1048576 W (hr.keep (ZmT _ hb) fun _ _ h=>h))
 have hb0:Below w.heap.size w (w.alloc (.cells #[.int .i64 z,.slice p qs.length cap] 125)):=(Below.refl _ _).alloc (Nat.le_refl _) _
 have HR1:=Lib.hid (HR.out _ hb0)
 have HB:=Lib.hid hb0
 clear HR hr hb0
 by_cases h0:qs.length=0
 ·have t1:((qs.length:Int) == 0)=true:=by rw [beq_iff_eq];omega
  have e:oddL (z,qs)=true:=by
   have:qs=[]:=List.eq_nil_of_length_eq_zero h0
   subst this;rfl
  rw [e]
  clear e h0
  go_enter Tryz.func242,Tryz.ntmps242
  go_wp2_with fail
  go_ret
  exact ⟨rfl,HB.out⟩
 ·have t1:((qs.length:Int) == 0)=false:=by rw [beq_eq_false_iff_ne];omega
  have e:oddL (z,qs) = !Zto 1048576 qs:=by
   unfold oddL
   cases qs with
   | nil=>simp at h0
   | cons q qs=>rfl
  rw [e]
  obtain ⟨R,hR⟩:∃ R,Zto 1048576 qs=R:=⟨_,rfl⟩
  rw [hR] at HR1 ⊢
  clear e h0 hR
  go_enter Tryz.func242,Tryz.ntmps242
  go_wp2_with fail
  refine HR1.out.mono ?_
  rintro e w1 ⟨rfl,rfl⟩
  go_wp2_with fail
  go_ret
  exact ⟨rfl,HB.out⟩
theorem ZlW (v:Value) (ps:List Post) (w:World) (hr:PRow w v ps):Calls Tryz.prog 263 #[v,.func (.func 242) #[] #[]] w fun e w'=>∃ n:Int,e=.returned (.int .i64 n)∧decide (n≥0)=ps.any oddL∧Below w.heap.size w w':=by
 obtain ⟨p,cap,rfl,hlc,hcm,_⟩:=hr.shape
 unfold maxLen at hcm
 have HR:=Lib.hid hr
 obtain ⟨RES,hRES⟩:∃ RES,ps.any oddL=RES:=⟨_,rfl⟩
 have HE:=Lib.hid hRES
 have H0:Hid ((ps.take 0).any oddL=false):=Lib.hid rfl
 rw [hRES]
 clear hr hRES
 go_enter Tryz.func263,Tryz.ntmps263
 go_wp2_with fail
 go_loopw [8] (fun i wr=>∃ k:Nat,k≤ps.length∧i=.int .i64 k∧Hid ((ps.take k).any oddL=false)∧Hid (Below w.heap.size w wr)) (fun i _=>ps.length - (intOf i).toNat)
 case atStart=>exact ⟨0,by omega,rfl,H0,Lib.hid (Below.refl _ _)⟩
 case round =>
  obtain ⟨k,hk,rfl,HA,HB⟩:=hrel
  clear H0
  by_cases hlt:k<ps.length
  ·have t1:decide ((k:Int)<(ps.length:Int))=true:=by simp;omega
   obtain ⟨b,off,x,rfl,hbl,_,hc1,hc2,hx⟩:=(HR.out.below HB.out).at_ hlt
   have hnx:(ps.take (k+1)).any oddL=oddL ps[k]:=by
    rw [List.take_succ_eq_append_getElem hlt,List.any_append,HA.out];simp
   have hod:=Zpm ps[k].1 x ps[k].2 wr hx
   have hmem:∀ r,oddL ps[k]=r→r=true→RES=true:=fun r hr h=>by
    rw [← HE.out];exact List.any_eq_true.2 ⟨ps[k],List.getElem_mem hlt,by rw [hr,h]⟩
   obtain ⟨z,hz⟩:∃ z,ps[k].1=z:=⟨_,rfl⟩
   have e2:oddL (ps[k].1,ps[k].2)=oddL ps[k]:=rfl
   rw [e2] at hod
   rw [hz] at hc1 hod
   obtain ⟨R,hR⟩:∃ R,oddL ps[k]=R:=⟨_,rfl⟩
   rw [hR] at hnx hod
   have HM:=Lib.hid (hmem R hR)
   obtain ⟨px,cx,rfl,_⟩:=hx.shape
   generalize ps[k].2.length=nx at *
   have HNX:=Lib.hid hnx
   have HOD:=Lib.hid hod
   clear hx hnx hod hz hR hmem e2
   go_wp2_with fail
   refine HOD.out.mono ?_
   rintro e w1 ⟨rfl,hb1⟩
   have HB1:=Lib.hid (grow HB.out hb1)
   clear hb1 HOD
   cases R with
   | true =>
     have:=HM.out rfl
     subst this
     go_wp2_with fail
     go_ret
     exact ⟨_,rfl,by simp,HB1.out⟩
   | false =>
     go_wp2_with fail
     go_roundw
     case rel=>exact ⟨k+1,by omega,by go_num,HNX,HB1⟩
     case measure=>simp [intOf];omega
  ·obtain rfl:k=ps.length:=by omega
   have t1:decide ((ps.length:Int)<(ps.length:Int))=false:=by simp
   have hf:RES=false:=by rw [← HE.out,← HA.out,List.take_length]
   subst hf
   clear HA
   go_wp2_with fail
   go_ret
   exact ⟨_,rfl,by simp,HB.out⟩
theorem ZfE (v:Value) (ps:List Post) (w:World) (hr:PRow w v ps):Calls Tryz.prog 241 #[v,.func (.func 242) #[] #[]] w fun e w'=>e=.returned (.bool (ps.any oddL))∧Below w.heap.size w w':=by
 have HI:=Lib.hid (ZlW v ps w hr)
 obtain ⟨p,cap,rfl,hlc,hcm,_⟩:=hr.shape
 generalize ps.any oddL=R at *
 clear hr
 go_enter Tryz.func241,Tryz.ntmps241
 go_wp2_with fail
 refine HI.out.mono ?_
 rintro e w1 ⟨n,rfl,hn,hb1⟩
 have HB:=Lib.hid hb1
 have HN:=Lib.hid hn
 clear hn hb1 HI
 go_wp2_with fail
 go_ret
 exact ⟨by rw [← HN.out];rfl,HB.out⟩
theorem Zgz (ps:List Post):(Zgu ps).length=ps.length:=by simp [Zgu]
theorem Zgx (ps:List Post) (k:Nat) (h:k<ps.length):(Zgu ps).getD k 0=ps[k].1:=by simp [Zgu,h]
def ZaY (zs:List Int) (w:World) (e:Ending) (w':World):Prop:=∃ v,e=.returned v∧OwnI w.heap.size w' v zs∧Below w.heap.size w w'
theorem OwnI.ion {B:Nat} {w:World} {v:Value} {zs:List Int} (h:OwnI B w v zs):IOn (fun _=>True) w v zs:=(Zmt (B:=w.heap.size) h.irow (Nat.le_refl _)).weak fun _ _ _=>trivial
def ZaQ (w:World) (g n:Nat) (zs:List Int):Prop:=g<w.heap.size∧∃ cur,w.heap[g]? = some (.cells cur 3)∧cur.size=n∧zs.length≤n∧cur.toList.take zs.length=zs.map (Value.int .i64)
theorem ZkX {B:Nat} {w:World} {g n:Nat} {xs:List Value} (h:w.ownsRow B 3 1 (.slice (some ⟨g,0,none⟩) n n) n xs):ZaQ w g n []:=by
 rcases h.2 with ⟨hv,_⟩ | ⟨g',cap,cur,hv,hb,hh,hn,hm,hs,ht⟩
 ·cases hv
 ·simp only [Value.slice.injEq,Option.some.injEq,Addr.mk.injEq] at hv
  obtain ⟨⟨rfl,_⟩,_,rfl⟩:=hv
  exact ⟨(Array.getElem?_eq_some_iff.1 hh).1,cur,hh,by omega,by simp,by simp⟩
theorem ZaQ.next {w:World} {g n:Nat} {zs:List Int} (h:ZaQ w g n zs) (hk:zs.length<n) (z:Int):ZaQ (w.setCell ⟨g,zs.length,none⟩ (.int .i64 z)) g n (zs++[z]):=by
 obtain ⟨h1,cur,h2,h3,h4,h5⟩:=h
 have:=heap_setCell_same w g zs.length _ _ (.int .i64 z) h2
 refine ⟨by simpa using h1,_,this,by simp [h3],by simp;omega,?_⟩
 rw [List.length_append,List.length_singleton,List.take_succ_eq_append_getElem (by simp;omega)]
 simp only [Array.toList_setIfInBounds,List.map_append,List.map_singleton]
 rw [List.take_set_of_le (by omega),h5]
 simp
theorem ZaQ.cell {w:World} {g n:Nat} {zs:List Int} (h:ZaQ w g n zs) {k:Nat} (hk:k<n):(∃ u,w.cell? ⟨g,k,none⟩=some u)∧w.frozen? ⟨g,k,none⟩=false:=by
 obtain ⟨h1,cur,h2,h3,h4,h5⟩:=h
 exact ⟨by rw [cell_of_row w g k _ _ _ h2];exact ⟨_,Array.getElem?_eq_getElem (by omega)⟩,frozen_of_row w g k _ _ h2⟩
theorem ZaQ.own {w:World} {g n:Nat} {zs:List Int} (h:ZaQ w g n zs) (hn:zs.length=n) (hm:n≤maxLen) {B:Nat} (hB:B≤g):OwnI B w (.slice (some ⟨g,0,none⟩) n n) zs:=by
 obtain ⟨h1,cur,h2,h3,h4,h5⟩:=h
 subst hn
 exact ⟨by simp,.inr ⟨g,zs.length,cur,rfl,hB,h2,Nat.le_refl _,hm,by omega,by rw [Nat.mul_one];exact h5⟩⟩
theorem ZaQ.keep {S:Nat→Prop} {w w':World} {g n:Nat} {zs:List Int} (h:ZaQ w g n zs) (hk:Kep S w w') (hS:S g):ZaQ w' g n zs:=by
 obtain ⟨h1,cur,h2,h3⟩:=h
 exact ⟨Nat.lt_of_lt_of_le h1 hk.size,cur,by rw [hk.block g h1 hS];exact h2,h3⟩
theorem Zgw (v:Value) (ps:List Post) (w:World) (hr:PRow w v ps) (hl:ps.length≤1000000000):Calls Tryz.prog 240 #[v] w (ZaY (Zgu ps) w):=by
 obtain ⟨i0,hi,hz0,hz1,hz2⟩:=info_parts Zl5
 obtain ⟨p,cap,rfl,hlc,hcm,_⟩:=hr.shape
 unfold maxLen at hcm
 have HR:=Lib.hid hr
 have HL:=Lib.hid (Zgz ps)
 have HD:=Lib.hid (Zgx ps)
 obtain ⟨D,hD⟩:∃ D,Zgu ps=D:=⟨_,rfl⟩
 rw [hD] at HL HD ⊢
 clear hr hD
 go_enter Tryz.func240,Tryz.ntmps240
 go_wp2_with (at_make;refine wpList_make_full w rfl _ _ 69 rfl w.heap.size 3 i0 (.int .i64 0) 1 Tryz.underlying69 hi hz0 hz1 .i64 .i64 _ _ ps.length rfl rfl rfl rfl (by rw [hz2];omega) (by unfold maxLen;omega) (Nat.le_refl _) ?_)
 intro w2 hown2 hg2
 have b2:=(Below.refl w.heap.size w).grown hg2 (Nat.le_refl _) (fun k h=>by cases h)
 have HH0:Hid (ZaQ w2 w.heap.size ps.length (D.take 0)):=Lib.hid (ZkX hown2)
 have HB0:=Lib.hid b2
 clear hown2 hg2 b2 hi hz0 hz1 hz2
 go_wp2_with fail
 go_loopw [11] (fun i wr=>∃ k:Nat,k≤ps.length∧i=.int .i64 k∧Hid (ZaQ wr w.heap.size ps.length (D.take k))∧Hid (Below w.heap.size w wr)) (fun i _=>ps.length - (intOf i).toNat)
 case atStart=>exact ⟨0,by omega,rfl,HH0,HB0⟩
 case round =>
  obtain ⟨k,hk,rfl,HH,HB⟩:=hrel
  clear HH0 HB0
  by_cases hlt:k<ps.length
  ·have t1:decide ((k:Int)<(ps.length:Int))=true:=by simp;omega
   obtain ⟨b,off,x,rfl,hbl,_,hc1,hc2,hx⟩:=HR.out.at_ hlt
   have hc1b:=(HB.out.cell (p:=⟨b,off+k*2,none⟩) hbl).trans hc1
   have hc2b:=(HB.out.cell (p:=⟨b,off+k*2+1,none⟩) hbl).trans hc2
   have hDt:(D.take k).length=k:=by rw [List.length_take,HL.out];omega
   have hDs:D.take (k+1)=D.take k++[ps[k].1]:=by
    rw [List.take_succ_eq_append_getElem (by rw [HL.out];exact hlt)]
    have:=HD.out k hlt
    rw [List.getD_eq_getElem?_getD,List.getElem?_eq_getElem (by rw [HL.out];exact hlt)] at this
    rw [← this];rfl
   obtain ⟨z,hz⟩:∃ z,ps[k].1=z:=⟨_,rfl⟩
   rw [hz] at hc1b hDs
   obtain ⟨px,cx,rfl,_⟩:=hx.shape
   generalize ps[k].2.length=nx at *
   have hal:Below wr.heap.size wr (wr.alloc (.cells #[.int .i64 z,.slice px nx cx] 125)):=(Below.refl _ _).alloc (Nat.le_refl _) _
   have hsz:=HB.out.size
   have HHa:=HH.out.keep (ZmT (fun _=>True) hal) trivial
   obtain ⟨⟨u0,f1⟩,f2⟩:=HHa.cell hlt
   have HHn:=HHa.next (by rw [hDt];exact hlt) z
   rw [hDt,← hDs] at HHn
   have HS:=Lib.hid HHn
   have HB2:=Lib.hid ((HB.out.trans (hal.mono hsz)).setCell (p:=⟨w.heap.size,k,none⟩) (Nat.le_refl _) (.int .i64 z))
   clear hx hal HHa HHn hDs hDt hz hc1 hc2
   go_wp2_with fail
   go_roundw
   case rel=>exact ⟨k+1,by omega,by go_num,HS,HB2⟩
   case measure=>simp [intOf];omega
  ·obtain rfl:k=ps.length:=by omega
   have t1:decide ((ps.length:Int)<(ps.length:Int))=false:=by simp
   have hD:D.take ps.length=D:=by rw [← HL.out,List.take_length]
   have hh:=HH.out
   rw [hD] at hh
   have HO:=Lib.hid (hh.own HL.out (by unfold maxLen;omega) (Nat.le_refl _))
   clear HH hh hD
   go_wp2_with fail
   go_ret
   exact ⟨_,rfl,HO.out,HB.out⟩
theorem ZeI (v:Value) (ps:List Post) (w:World) (hr:PRow w v ps) (hl:ps.length≤1000000000):Calls Tryz.prog 189 #[v] w fun e w'=>e=.returned (.int .i64 (if isL ps=true then 0 else 80))∧Below w.heap.size w w':=by
 have HD:=Lib.hid (Zgw v ps w hr hl)
 have HC:=Lib.hid (fun W (hb:Below w.heap.size w W)=>ZfE v ps W (hr.below hb))
 obtain ⟨p,cap,rfl,hlc,hcm,_⟩:=hr.shape
 unfold isL
 obtain ⟨D,hD⟩:∃ D,Zgu ps=D:=⟨_,rfl⟩
 rw [hD] at HD ⊢
 obtain ⟨O,hO⟩:∃ O,ps.any oddL=O:=⟨_,rfl⟩
 rw [hO] at HC ⊢
 have HR0:Hid (∀ W u,OwnI w.heap.size W u D→Calls Tryz.prog 239 #[u,.int .i64 65536] W fun e w'=>e=.returned (.bool (Zto 65536 D))∧W=w'):=Lib.hid (fun W u h=>Zty u D 65536 W (OwnI.ion h))
 obtain ⟨R,hR⟩:∃ R,Zto 65536 D=R:=⟨_,rfl⟩
 rw [hR] at HR0 ⊢
 clear hr hD hO hR
 go_enter Tryz.func189,Tryz.ntmps189
 go_wp2_with fail
 refine HD.out.mono ?_
 rintro e w1 ⟨v1,rfl,ho1,hb1⟩
 have HR:=Lib.hid (HR0.out w1 v1 ho1)
 have HC1:=Lib.hid (HC.out w1 hb1)
 have HB1:=Lib.hid hb1
 obtain ⟨p1,c1,rfl,_⟩:=(OwnI.irow ho1).shape
 clear HC HD ho1 hb1 HR0
 cases R with
 | false =>
   go_wp2_with fail
   refine HR.out.mono ?_
   rintro e w2 ⟨rfl,rfl⟩
   go_wp2_with fail
   go_ret
   exact ⟨rfl,HB1.out⟩
 | true =>
   go_wp2_with fail
   refine HR.out.mono ?_
   rintro e w2 ⟨rfl,rfl⟩
   go_wp2_with fail
   refine HC1.out.mono ?_
   rintro e w3 ⟨rfl,hb3⟩
   have HB3:=Lib.hid (grow HB1.out hb3)
   clear hb3 HC1
   cases O with
   | true =>
     go_wp2_with fail
     go_ret
     exact ⟨rfl,HB3.out⟩
   | false =>
     go_wp2_with fail
     go_ret
     exact ⟨rfl,HB3.out⟩
end Go.Proofs.YtdijhifdjbnkfaaGreat.PW
namespace Go.Proofs.YtdijhifdjbnkfaaGreat.PW
open Go.RowKit MM PM
theorem Zl9:(Tryz.prog.info? 47).map (fun i=>(i.zero,i.size,i.bytes))=some (some (.slice none 0 0),1,24):=by kernel_rfl
def blkV (b off n cap i:Nat):Value:=.slice (some ⟨b,off+64*i,none⟩) (min 32 (n - 32*i)) (cap - 32*i)
def Zdi (b off n cap c:Nat):List Value:=(List.range c).map (blkV b off n cap)
theorem Zdk (b off n cap c:Nat):(Zdi b off n cap c).length=c:=by simp [Zdi]
theorem Zdl (b off n cap c:Nat):Zdi b off n cap (c+1)=Zdi b off n cap c++[blkV b off n cap c]:=by simp [Zdi,List.range_succ]
theorem Zdj (b off n cap c i:Nat) (h:i<c):(Zdi b off n cap c)[i]? = some (blkV b off n cap i):=by simp [Zdi,h]
def OwnV (B:Nat) (w:World) (v:Value) (xs:List Value):Prop:=w.ownsRow B 47 1 v xs.length xs
def Zag (b off n cap:Nat) (w:World) (e:Ending) (w':World):Prop:=∃ v,e=.returned v∧OwnV w.heap.size w' v (Zdi b off n cap (cnt n))∧Below w.heap.size w w'
theorem OwnV.row {B:Nat} {w:World} {v:Value} {xs:List Value} (h:OwnV B w v xs):Row w v xs:=Row.of_own h
theorem OwnV.at_ {B:Nat} {w:World} {p:Option Addr} {n cap:Nat} {xs:List Value} (h:OwnV B w (.slice p n cap) xs) {k:Nat} {u:Value} (hk:xs[k]? = some u) :
  ∃ g,p=some ⟨g,0,none⟩∧B≤g∧g<w.heap.size∧w.cell? ⟨g,k,none⟩=some u∧∃ cur fr,w.heap[g]? = some (.cells cur 47 fr):=by
 have hlt:=(List.getElem?_eq_some_iff.1 hk).1
 rcases h.2 with ⟨hv,h0⟩ | ⟨g,cap',cur,hv,hg,hh,hnc,hm,hs,ht⟩
 ·omega
 ·simp only [Value.slice.injEq] at hv
  obtain ⟨rfl,_,_⟩:=hv
  refine ⟨g,rfl,hg,(Array.getElem?_eq_some_iff.1 hh).1,?_,cur,_,hh⟩
  have:=Lib.cells_of_row hh (xs.length*1) k u (by rw [ht];exact hk)
  rw [Zb5,Nat.zero_add] at this
  exact this
theorem OwnV.shape {B:Nat} {w:World} {v:Value} {xs:List Value} (h:OwnV B w v xs):∃ p cap,v=.slice p xs.length cap∧xs.length≤cap∧cap≤maxLen:=by
 rcases h.2 with ⟨rfl,h0⟩ | ⟨g,cap,cur,rfl,hg,hh,hn,hm,_⟩
 ·exact ⟨none,0,by rw [h0],by omega,by unfold maxLen;omega⟩
 ·exact ⟨_,cap,rfl,hn,hm⟩
theorem Zzm {w:World} {ops:Array Oper} {rest:List Oper} {o:Oper} {a:Act} {Q:Exit→Act→World→Prop} (hgd:o.guard=none) (s x:Operand)
  (ho:o.op=.call { callee:=.builtin .append,args:=#[s,x],argTypes:=#[249,249] }) (B:Nat) (v:Value) (xs:List Value) (w0:World) (u:Value) (hw:w=w0.alloc (.cells #[u] 47)) (hu:u.oneCell'=true) (hs:a.eval s=v) (hown:OwnV B w0 v xs)
  (hx:a.eval x=.slice (some ⟨w0.heap.size,0,none⟩) 1 1) (hlen:xs.length≤100000000000) (hbase:B≤w0.heap.size)
  (h:∀ v' w',OwnV B w' v' (xs++[u])→Below B w0 w'→wpList Tryz.prog ops Q rest (a.put o.dst v') w'):wpList Tryz.prog ops Q (o::rest) a w:=by
 subst hw
 obtain ⟨i0,hi,hz0,hz1,hz2⟩:=info_parts Zl9
 have hb0:Below w0.heap.size w0 (w0.alloc (.cells #[u] 47)):=(Below.refl _ _).alloc (Nat.le_refl _) _
 refine Zzr hgd s x 249 ho B 47 i0 (.slice none 0 0) 24 Tryz.underlying249 hi hz0 hz1 hz2 rfl v xs.length xs hs (Zqe (B:=0) hown hb0) (.slice (some ⟨w0.heap.size,0,none⟩) 1 1) [u] hx
  (Row.of_own (Zqg w0 [u] 47 0 (Nat.zero_le _) (by unfold maxLen;simp))) (fun y hy=>by simp at hy;subst hy;exact hu)
  (by unfold maxLen;simp;omega) (by simp;omega) (by simp;omega) (fun v' w' h4 h5=>h v' w' (by unfold OwnV;rw [List.length_append];exact h4) (Below.trans (hb0.mono hbase) h5))
def Zbk (b off n cap i:Nat) (v:Value):Prop:=∃ q c,v=.slice q (n - 32*i) c∧(32*i<n→q=some ⟨b,off+64*i,none⟩∧c=cap - 32*i)
theorem Zdu (b off n cap:Nat) (q:Option Addr) (w:World) (hq:0<n→q=some ⟨b,off,none⟩) (hnc:n≤cap) (hcm:cap≤maxLen) (hn:n≤1000000000):Calls Tryz.prog 168 #[.slice q n cap,.int .i64 32] w (Zag b off n cap w):=by
 unfold maxLen at hcm
 have HO0:Hid (OwnV w.heap.size w (.slice none 0 0) (Zdi b off n cap 0)):=Lib.hid (World.ownsRow_nil _ _ _ _)
 have HR0:Hid (Zbk b off n cap 0 (.slice q n cap)):=Lib.hid ⟨q,cap,by rw [Nat.mul_zero,Nat.sub_zero],fun h=>⟨hq (by omega),by omega⟩⟩
 clear hq
 go_enter Tryz.func168,Tryz.ntmps168
 go_wp2_with fail
 go_loopw [0,5] (fun r u wr=>∃ i:Nat,i≤cnt n∧Hid (Zbk b off n cap i r)∧Hid (OwnV w.heap.size wr u (Zdi b off n cap i))∧Hid (Below w.heap.size w wr)) (fun r _ _=>match r with | .slice _ m _=>m | _=>0)
 case atStart=>exact ⟨0,by omega,HR0,HO0,Lib.hid (Below.refl _ _)⟩
 case round =>
  obtain ⟨i,hi,HR,HO,HB⟩:=hrel
  clear HO0 HR0
  obtain ⟨q1,c1,rfl,hq1⟩:=HR.out
  have hsz:=HB.out.size
  unfold cnt at hi
  by_cases hlt:32*i<n
  ·obtain ⟨rfl,rfl⟩:=hq1 hlt
   have t1:decide (((n - 32*i:Nat):Int)>0)=true:=by rw [decide_eq_true_eq];omega
   obtain ⟨m,hm⟩:∃ m,min 32 (n - 32*i)=m:=⟨_,rfl⟩
   obtain ⟨r,hr⟩:∃ r,n - 32*i=r:=⟨_,rfl⟩
   obtain ⟨c,hc⟩:∃ c,cap - 32*i=c:=⟨_,rfl⟩
   have hsn:=Zdl b off n cap i
   unfold blkV at hsn
   rw [hm,hc] at hsn
   rw [hr] at t1 hm ⊢
   rw [hc]
   have HS:=Lib.hid hsn
   have HNX:Hid (∀ q2 c2,(c≠m→q2=some ⟨b,off+64*i+m*2,none⟩∧c2=c - m)→Zbk b off n cap (i+1) (.slice q2 (r - m) c2)):=Lib.hid (fun q2 c2 h=>⟨q2,c2,by rw [show n - 32*(i+1)=r - m by omega],fun hlt2=>by
    obtain ⟨h1,h2⟩:=h (by omega)
    exact ⟨by rw [h1,show off+64*i+m*2=off+64*(i+1) by omega],by omega⟩⟩)
   have hmr:m≤r:=by omega
   have hrc:r≤c:=by omega
   have hm0:0<m:=by omega
   have hmin:(if (r:Int)<32 then (r:Int) else 32)=(m:Int):=by split<;>omega
   have hmin2:(if 32<(r:Int) then 32 else (r:Int))=(m:Int):=by split<;>omega
   have hmin3:min 32 (r:Int)=(m:Int):=by omega
   have hlen:(Zdi b off n cap i).length≤100000000000:=by rw [Zdk];omega
   have hin:i+1≤(n+31) / 32:=by omega
   have HLT:=Lib.hid hlt
   obtain ⟨pu,cu,rfl,hu1,hu2⟩:=HO.out.shape
   have HHM:=Lib.hid hm
   have HMR:Hid (r - m<r):=Lib.hid (by omega)
   clear hm hc hlt hr hsn hi HR
   go_wp2_with (at_builtin;refine Zzm rfl _ _ rfl w.heap.size _ (Zdi b off n cap i) wr (.slice (some ⟨b,off+64*i,none⟩) m c) rfl rfl rfl HO.out rfl hlen hsz ?_)
   intro v4 w4 hown4 hb4
   rw [← HS.out] at hown4
   have HO4:=Lib.hid hown4
   have HB4:=Lib.hid (HB.out.trans hb4)
   have i1:(m:Int)≤(r:Int):=by omega
   clear hown4 hb4 HO hu1 hu2
   by_cases hcm2:c=m
   ·have HNX2:=Lib.hid (fun q2 c2=>HNX.out q2 c2 (fun h=>absurd hcm2 h))
    go_wp2_with fail
    go_roundw
    case rel=>exact ⟨i+1,hin,HNX2.out _ _,HO4,HB4⟩
    case measure=>exact HMR.out
   ·have HNX2:=Lib.hid (HNX.out (some ⟨b,off+64*i+m*2,none⟩) (c - m) (fun h=>⟨rfl,rfl⟩))
    go_wp2_with fail
    go_roundw
    case rel=>exact ⟨i+1,hin,HNX2,HO4,HB4⟩
    case measure=>exact HMR.out
  ·have e0:n - 32*i=0:=by omega
   have ei:i=cnt n:=by unfold cnt;omega
   have HO2:Hid (OwnV w.heap.size wr u5 (Zdi b off n cap (cnt n))):=by rw [← ei];exact HO
   rw [e0]
   clear HO hq1 hlt HR e0
   go_wp2_with fail
   go_ret
   exact ⟨_,rfl,HO2.out,HB.out⟩
end Go.Proofs.YtdijhifdjbnkfaaGreat.PW
namespace Go.Proofs.YtdijhifdjbnkfaaGreat.PW
open Go.RowKit MM PM
theorem Zvr {α:Type} {xs ys:List α} {k:Nat} (hl:xs.length=ys.length) (h:xs.take k=ys.take k) (hk:k<xs.length) (he:xs[k]=ys[k]'(by omega)):xs.take (k+1)=ys.take (k+1):=by
 rw [List.take_succ_eq_append_getElem hk,List.take_succ_eq_append_getElem (by omega),h,he]
theorem Zvs {α:Type} {xs ys:List α} {k:Nat} (hl:xs.length=ys.length) (hk:k<xs.length) (he:xs[k]≠ys[k]'(by omega)):xs≠ys:=by
 intro e;subst e;exact he rfl
theorem Zvp {α:Type} {xs ys:List α} (hl:xs.length=ys.length) (h:xs.take xs.length=ys.take xs.length):xs=ys:=by
 rw [List.take_length,hl,List.take_length] at h;exact h
theorem Zvt (u v:Value) (xs ys:List Int) (w:World) (hu:IOn (fun _=>True) w u xs) (hv:IOn (fun _=>True) w v ys) :
  Calls Tryz.prog 32 #[u,v] w fun e w'=>e=.returned (.bool (decide (xs=ys)))∧Below w.heap.size w w':=by
 obtain ⟨p,cp,rfl,hp1,hp2,_⟩:=hu.shape
 obtain ⟨q,cq,rfl,hq1,hq2,_⟩:=hv.shape
 unfold maxLen at hp2 hq2
 have HP:=Lib.hid hu
 have HQ:=Lib.hid hv
 clear hu hv
 by_cases hl:xs.length=ys.length
 ·have HL:=Lib.hid hl
  have t0:((xs.length:Int) == (ys.length:Int))=true:=by rw [beq_iff_eq];omega
  obtain ⟨RES,hRES⟩:∃ R,decide (xs=ys)=R:=⟨_,rfl⟩
  have HE:=Lib.hid hRES
  rw [hRES]
  have H0:Hid (xs.take 0=ys.take 0):=Lib.hid rfl
  clear hl hRES
  go_enter Tryz.func32,Tryz.ntmps32
  go_wp2_with fail
  go_loopw [5] (fun i wr=>∃ k:Nat,k≤xs.length∧i=.int .i64 k∧Hid (xs.take k=ys.take k)∧Hid (Below w.heap.size w wr)) (fun i _=>xs.length - (intOf i).toNat)
  case atStart=>exact ⟨0,Nat.zero_le _,rfl,H0,Lib.hid (Below.refl _ _)⟩
  case round =>
   obtain ⟨k,hk,rfl,HA,HB⟩:=hrel
   clear H0
   by_cases hlt:k<xs.length
   ·have t1:decide ((k:Int)<(xs.length:Int))=true:=by simp;omega
    have hlt2:k<ys.length:=by rw [← HL.out];exact hlt
    obtain ⟨b,off,rfl,hbl,_,hcell⟩:=(HP.out.keep (ZmT (fun _=>True) HB.out) fun _ _ h=>h).at_ hlt
    obtain ⟨b2,off2,rfl,hbl2,_,hcell2⟩:=(HQ.out.keep (ZmT (fun _=>True) HB.out) fun _ _ h=>h).at_ hlt2
    have hmore:=Zvr HL.out HA.out hlt
    have hnot:=Zvs HL.out hlt
    obtain ⟨x,hx⟩:∃ r,xs[k]=r:=⟨_,rfl⟩
    obtain ⟨y,hy⟩:∃ r,ys[k]=r:=⟨_,rfl⟩
    rw [hx] at hcell hmore hnot
    rw [hy] at hcell2 hmore hnot
    have HM:=Lib.hid hmore
    have HN:=Lib.hid hnot
    clear hx hy hmore hnot
    by_cases hxy:x=y
    ·subst hxy
     have HA2:=Lib.hid (HM.out rfl)
     clear HM HN HA
     go_wp2_with fail
     go_quiet (fail)
     go_wp2_with fail
     go_roundw
     case rel=>exact ⟨k+1,by omega,by go_num,HA2,Lib.hid (ZcN HB.out _)⟩
     case measure=>simp [intOf];omega
    ·have t2:(x == y)=false:=by rw [beq_eq_false_iff_ne];exact hxy
     have hf:RES=false:=by rw [← HE.out];exact decide_eq_false (HN.out hxy)
     subst hf
     clear HM HN HA hxy
     go_wp2_with fail
     go_quiet (fail)
     go_wp2_with fail
     go_ret
     exact ⟨rfl,ZcN HB.out _⟩
   ·obtain rfl:k=xs.length:=by omega
    have t1:decide ((xs.length:Int)<(xs.length:Int))=false:=by simp
    have hf:RES=true:=by rw [← HE.out];exact decide_eq_true (Zvp HL.out HA.out)
    subst hf
    clear HA
    go_wp2_with fail
    go_ret
    exact ⟨rfl,HB.out⟩
 ·have t0:((xs.length:Int) == (ys.length:Int))=false:=by rw [beq_eq_false_iff_ne];omega
  have hf:decide (xs=ys)=false:=decide_eq_false (fun e=>hl (by rw [e]))
  rw [hf]
  clear hl hf
  go_enter Tryz.func32,Tryz.ntmps32
  go_wp2_with fail
  go_ret
  exact ⟨rfl,Below.refl _ _⟩
end Go.Proofs.YtdijhifdjbnkfaaGreat.PW
namespace Go.Proofs.YtdijhifdjbnkfaaGreat.PW
open Go.RowKit MM PM
end Go.Proofs.YtdijhifdjbnkfaaGreat.PW
namespace Go.Proofs.YtdijhifdjbnkfaaGreat.PW
open Go.RowKit MM PM
def ZiC:List Post→Int→Option (List Int)
 | [],_=>none
 | p::ps,d=>if p.1=d then some p.2 else ZiC ps d
theorem ZiE:∀ (a b:List Post) (d:Int),(∀ p∈a,p.1≠d)→ZiC (a++b) d=ZiC b d
 | [],_,_,_=>rfl
 | p::a,b,d,h=>by
   rw [List.cons_append,ZiC,if_neg (h p (by simp)),ZiE a b d (fun q hq=>h q (by simp [hq]))]
def ZaG (S:Nat→Prop) (r:Option (List Int)) (w:World) (e:Ending) (w':World):Prop:=∃ v,e=.returned (.tuple #[v,.bool r.isSome])∧IOn S w' v (r.getD [])∧Below w.heap.size w w'
theorem Zti (v:Value) (ps:List Post) (d:Int) (w:World) (hr:PRow w v ps):Calls Tryz.prog 36 #[v,.int .i64 d] w (ZaG (fun _=>True) (ZiC ps d) w):=by
 obtain ⟨p,cap,rfl,hlc,hcm,_⟩:=hr.shape
 unfold maxLen at hcm
 have HR:=Lib.hid hr
 have HS:=Lib.hid (fun k (h:∀ q∈ps.take k,q.1≠d)=>by
  have:=ZiE (ps.take k) (ps.drop k) d h
  rw [List.take_append_drop] at this
  exact this)
 obtain ⟨RES,hRES⟩:∃ R,ZiC ps d=R:=⟨_,rfl⟩
 rw [hRES] at HS ⊢
 have H0:Hid (∀ q∈ps.take 0,q.1≠d):=Lib.hid (fun q hq=>by simp at hq)
 clear hr hRES
 go_enter Tryz.func36,Tryz.ntmps36
 go_wp2_with fail
 go_loopw [6] (fun i wr=>∃ k:Nat,k≤ps.length∧i=.int .i64 k∧Hid (∀ q∈ps.take k,q.1≠d)∧Hid (Below w.heap.size w wr)) (fun i _=>ps.length - (intOf i).toNat)
 case atStart=>exact ⟨0,by omega,rfl,H0,Lib.hid (Below.refl _ _)⟩
 case round =>
  obtain ⟨k,hk,rfl,HA,HB⟩:=hrel
  clear H0
  by_cases hlt:k<ps.length
  ·have t1:decide ((k:Int)<(ps.length:Int))=true:=by simp;omega
   obtain ⟨b,off,x,rfl,hbl,_,hc1,hc2,hx⟩:=(HR.out.below HB.out).at_ hlt
   have hd:ps.drop k=ps[k]::ps.drop (k+1):=List.drop_eq_getElem_cons hlt
   have hs:=HS.out k HA.out
   rw [hd,ZiC] at hs
   have HMem:Hid (ps[k].1≠d→∀ q∈ps.take (k+1),q.1≠d):=Lib.hid (fun h q hq=>by
    rw [List.take_succ_eq_append_getElem hlt,List.mem_append] at hq
    rcases hq with hq | hq
    ·exact HA.out q hq
    ·simp at hq;subst hq;exact h)
   obtain ⟨⟨z,l⟩,hz⟩:∃ z,ps[k]=z:=⟨_,rfl⟩
   rw [hz] at hc1 hx hs HMem
   dsimp only at hc1 hx hs HMem
   obtain ⟨px,cx,rfl,_⟩:=hx.shape
   have HX:=Lib.hid hx
   have HSS:=Lib.hid hs
   clear hx hz hd hs
   by_cases he:z=d
   ·have s1:(z == d)=true:=by rw [beq_iff_eq];exact he
    have h2:=HSS.out
    rw [if_pos he] at h2
    have H2:=Lib.hid h2
    clear he h2 HSS HMem HA
    go_wp2_with fail
    go_ret2
    rw [H2.out]
    exact ⟨_,rfl,HX.out,HB.out⟩
   ·have s1:(z == d)=false:=by rw [beq_eq_false_iff_ne];exact he
    have HA2:=Lib.hid (HMem.out he)
    clear he HMem HA HSS
    go_wp2_with fail
    go_roundw
    case rel=>exact ⟨k+1,by omega,by go_num,HA2,HB⟩
    case measure=>simp [intOf];omega
  ·obtain rfl:k=ps.length:=by omega
   have t1:decide ((ps.length:Int)<(ps.length:Int))=false:=by simp
   have hs:=HS.out ps.length HA.out
   rw [List.drop_length,ZiC] at hs
   have H2:=Lib.hid hs
   clear HA hs
   go_wp2_with fail
   go_ret2
   rw [H2.out]
   exact ⟨_,rfl,IOn.nil_ _ _,HB.out⟩
end Go.Proofs.YtdijhifdjbnkfaaGreat.PW
