import Derived.Test.YtdijhifdjbnkfaaGreatZD22
import Derived.Test.YtdijhifdjbnkfaaGreatZD31
import Derived.Test.YtdijhifdjbnkfaaGreatZD30
import Derived.Test.YtdijhifdjbnkfaaGreatZD32
set_option maxRecDepth 100000
set_option maxHeartbeats 8000000
set_option linter.unusedVariables false
set_option linter.unusedSimpArgs false
namespace Go.Proofs.YtdijhifdjbnkfaaGreat.EV
open Go Go.RowKit MM EM SM
def tcC:Codec Zbu where
 size:=2
 on:=fun _ _ vs x=>vs=encT x
 pos:=by decide
 len:=fun h=>by rw [h];rfl
 keep:=fun h _ _=>h
 one:=fun {_ _ _ x} h u hu=>by
  rw [h] at hu
  simp only [encT,List.mem_cons,List.not_mem_nil,or_false] at hu
  rcases hu with rfl | rfl
  ·rfl
  ·exact x.2.2
theorem Zw6:Elem tcC Tryz.prog 202 204 40:=⟨Tryz.underlying202,by
 have h:(Tryz.prog.info? 204).map (fun i=>(i.zero,i.size,i.bytes))=some (some (.agg #[.string ⟨#[]⟩,.slice none 0 0]),2,40):=by kernel_rfl
 obtain ⟨i,h1,h2,h3,h4⟩:=info_parts h
 exact ⟨i,_,h1,h2,h3,h4,rfl⟩⟩
theorem ZoR {α:Type} [DecidableEq α]:∀ {a b:List α},a.Nodup→(∀ x∈a,x∈b)→a.length≤b.length
 | [],b,_,_=>Nat.zero_le _
 | x::a,b,h,hs=>by
   obtain ⟨hx,ha⟩:=List.nodup_cons.1 h
   have hxb:=hs x (by simp)
   have:=ZoR (a:=a) (b:=b.erase x) ha fun y hy=>(List.mem_erase_of_ne (fun e:y=x=>hx (by rw [← e];exact hy))).2 (hs y (by simp [hy]))
   rw [List.length_erase_of_mem hxb] at this
   have hl:0<b.length:=List.length_pos_of_mem hxb
   rw [List.length_cons]
   omega
theorem Zrl {α:Type}:∀ {T:List (EM.Tr α)} {s:List UInt8},Zrf T s≠[]→s∈T.map (·.1)
 | [],s,h=>absurd rfl h
 | t::r,s,h=>by
   rw [Zrf] at h
   by_cases e:t.1=s
   ·simp [e]
   ·rw [if_neg e] at h
    have:=Zrl h
    rw [List.map_cons]
    exact List.mem_cons_of_mem _ this
structure Coll (F:List UInt8→Option Value) (left:List UInt8→Bool) (d:List Zbu):Prop where
 val:∀ x∈d,F x.1=some x.2.1∧left x.1=false
 nodup:(d.map (·.1)).Nodup
 all:∀ s,(F s).isSome=true→left s=true∨s∈d.map (·.1)
theorem Coll.start (F:List UInt8→Option Value):Coll F (fun n=>(F n).isSome) []:=⟨fun _ h=>(by cases h),List.nodup_nil,fun s h=>.inl h⟩
theorem Coll.next {F:List UInt8→Option Value} {left:List UInt8→Bool} {d:List Zbu} (h:Coll F left d) {n:List UInt8} {v:Value} (hv:v.oneCell'=true) (hl:left n=true) (hF:F n=some v) :
  Coll F (fun k=>left k && !decide (k=n)) (d++[(n,⟨v,hv⟩)]):=by
 refine ⟨fun x hx => ?_,?_,fun s hs => ?_⟩
 ·rcases List.mem_append.1 hx with hx | hx
  ·exact ⟨(h.val x hx).1,by simp [(h.val x hx).2]⟩
  ·obtain rfl:=List.mem_singleton.1 hx
   exact ⟨hF,by simp⟩
 ·rw [List.map_append,List.nodup_append]
  refine ⟨h.nodup,by simp,fun a ha b hb e => ?_⟩
  simp only [List.map_cons,List.map_nil,List.mem_singleton] at hb
  subst hb
  subst e
  obtain ⟨x,hx,hxn⟩:=List.mem_map.1 ha
  have:=(h.val x hx).2
  rw [hxn,hl] at this
  cases this
 ·by_cases e:s=n
  ·exact .inr (by simp [e])
  ·rcases h.all s hs with h1 | h1
   ·exact .inl (by simp [h1,e])
   ·exact .inr (by rw [List.map_append];exact List.mem_append_left _ h1)
theorem Zrk (f:List UInt8→List Int):∀ (d:List Zbu) (s:List UInt8),Zrf (d.map fun x=>((x.1,f x.1):Trm)) s=if s∈d.map (·.1) then f s else []
 | [],s=>by simp [Zrf]
 | x::d,s=>by
   rw [List.map_cons,Zrf,Zrk f d s]
   by_cases e:x.1=s
   ·subst e;simp
   ·rw [if_neg e]
    have:(s∈(x::d).map (·.1))↔s∈d.map (·.1):=by
     rw [List.map_cons,List.mem_cons]
     exact ⟨fun h=>h.resolve_left fun h2=>e h2.symm,.inr⟩
    by_cases hm:s∈d.map (·.1)
    ·rw [if_pos hm,if_pos (this.2 hm)]
    ·rw [if_neg hm,if_neg fun h=>hm (this.1 h)]
theorem Zfq {B mb:Nat} {T:List Trm} {F:List UInt8→Option Value} {w:World} (hP:Plc B mb T F w) {left:List UInt8→Bool} {d d':List Zbu} (h:Coll F left d) (hl:∀ n,left n=false) (hp:d'.Perm d) (hs:d'.Pairwise fun x y=>Znl y.1 x.1=false) :
  (d'.map fun x=>((x.1,Zrf T x.1):Trm))=T:=by
 have hnd:(d'.map (·.1)).Nodup:=(hp.map (·.1)).nodup_iff.2 h.nodup
 refine Ztz ?_ hP.rise ?_ hP.ne fun s => ?_
 ·unfold Zbl
  rw [List.pairwise_map]
  have h2:d'.Pairwise fun x y=>x.1≠y.1:=by
   have:=hnd
   unfold List.Nodup at this
   rwa [List.pairwise_map] at this
  exact (hs.and h2).imp fun ⟨h1,h3⟩=>Znr h1 (fun e=>h3 e.symm)
 ·intro t ht
  obtain ⟨x,hx,rfl⟩:=List.mem_map.1 ht
  exact (hP.own x.1 _ (h.val x (hp.mem_iff.1 hx)).1).2.1
 ·rw [Zrk]
  by_cases e:s∈d'.map (·.1)
  ·rw [if_pos e]
  ·rw [if_neg e]
   refine (hP.none s ?_).symm
   cases hf:F s with
   | none=>rfl
   | some v =>
     rcases h.all s (by rw [hf];rfl) with h1 | h1
     ·rw [hl] at h1;cases h1
     ·exact absurd ((hp.map (·.1)).mem_iff.2 h1) e
theorem Zfo {B mb:Nat} {T:List Trm} {F:List UInt8→Option Value} {w:World} (hP:Plc B mb T F w) {left:List UInt8→Bool} {d:List Zbu} (h:Coll F left d):d.length≤T.length:=by
 have:=ZoR (b:=T.map (·.1)) h.nodup fun s hs=>by
  obtain ⟨x,hx,rfl⟩:=List.mem_map.1 hs
  exact Zrl (hP.own x.1 _ (h.val x hx).1).2.1
 simpa using this
theorem ZiX {raw:List (List Value)} {n:Nat} (hn:0<n) (hl:∀ r∈raw,r.length=n) {w:World} {b off:Nat} (h:∀ i (hi:i<raw.length) j u,raw[i][j]? = some u→w.cell? ⟨b,off+i*n+j,none⟩=some u) :
  ∀ j u,raw.flatten[j]? = some u→w.cell? ⟨b,off+j,none⟩=some u:=fun j u hj=>by
 have hjl:=(List.getElem?_eq_some_iff.1 hj).1
 rw [Zi0 hl] at hjl
 have hi:j / n<raw.length:=(Nat.div_lt_iff_lt_mul hn).2 hjl
 have hmod:=Nat.mod_lt j hn
 have hdm:=Nat.div_add_mod j n
 have hli:=hl raw[j / n] (List.getElem_mem hi)
 obtain ⟨u',hu'⟩:∃ u,raw[j / n][j%n]? = some u:=⟨_,List.getElem?_eq_getElem (l:=raw[j / n]) (i:=j%n) (by omega)⟩
 have hf:=ZiZ hl (j / n) hi (j%n) u' hu'
 have e:j / n*n+j%n=j:=by rw [Nat.mul_comm];exact hdm
 rw [e,hj] at hf
 obtain rfl:=Option.some.inj hf
 have:=h _ hi _ _ hu'
 rw [Nat.add_assoc,e] at this
 exact this
theorem Zqc {B:Nat} {w:World} {v:Value} {zs:List Int} (h:OwnZ w v zs∧zs≠[]∧∀ g,v.ownBlock=some g→B≤g):ROn cInt (fun b=>B≤b) w v zs:=OwnS.ron h.1 (fun g hg=>h.2.2 g hg) fun _ _ h=>h.elim
theorem Zfp {B mb:Nat} {T:List Trm} {F:List UInt8→Option Value} {w:World} (hP:Plc B mb T F w) {left:List UInt8→Bool} {d d':List Zbu} (h:Coll F left d) (hl:∀ n,left n=false) (hp:d'.Perm d) (hs:d'.Pairwise fun x y=>Znl y.1 x.1=false)
  {g cap:Nat} (hc:Zal w g d') (hg:g<w.heap.size) (hcap:d.length≤cap) (hcm:cap≤maxLen) (hgB:B≤g):RNew B w (.slice (some ⟨g,0,none⟩) d.length cap) T:=by
 have hT:=Zfq hP h hl hp hs
 have hlen:T.length=d.length:=by rw [← hT,List.length_map];exact hp.length_eq
 refine ⟨some ⟨g,0,none⟩,cap,d'.map encT,by rw [hlen],by rw [hlen];exact hcap,hcm,(fun e=>by cases e),⟨by rw [List.length_map,← hT,List.length_map],fun i hi hi' => ?_⟩,.inr ⟨g,0,rfl,hg,hgB,?_⟩⟩
 ·have hi2:i<d'.length:=by simpa using hi
  have e:T[i]=(d'[i].1,Zrf T d'[i].1):=by
   have:T[i]? = some (d'[i].1,Zrf T d'[i].1):=by
    conv=>lhs;rw [← hT]
    simp [hi2]
   exact (List.getElem?_eq_some_iff.1 this).2
  rw [List.getElem_map,e,Zx7]
  exact ⟨d'[i].2.1,rfl,Zqc (hP.own _ _ (h.val d'[i] (hp.mem_iff.1 (List.getElem_mem hi2))).1)⟩
 ·refine ZiX (n:=2) (by omega) (fun r hr=>by obtain ⟨x,_,rfl⟩:=List.mem_map.1 hr;rfl) fun i hi j u hj => ?_
  have hi2:i<d'.length:=by simpa using hi
  rw [List.getElem_map] at hj
  rw [Nat.zero_add]
  match j,hj with
  | 0,hj =>
    obtain rfl:=Option.some.inj hj
    exact (hc i hi2).1
  | 1,hj =>
    obtain rfl:=Option.some.inj hj
    exact (hc i hi2).2
theorem Zp3 {S:Nat→Prop} {B:Nat} {w w':World} {v:Value} {d:List Zbu} (h:OwnC tcC 204 B w v d) (hk:Kep S w w') (hS:∀ g,v.ownBlock=some g→S g):OwnC tcC 204 B w' v d:=by
 obtain ⟨raw,h1,h2⟩:=h
 exact ⟨raw,Zqo h1 hk hS,h2.1,fun i hi hi'=>h2.2 i hi hi'⟩
theorem Zp5 {B:Nat} {w:World} {v:Value} (h:w.ownsRow B 204 2 v 0 []):OwnC tcC 204 B w v []:=⟨[],h,Mean.nil_ _ _⟩
theorem Zp4 {B:Nat} {w:World} {v:Value} {d:List Zbu} (h:OwnC tcC 204 B w v d) (hd:d≠[]):∃ g cap,v=.slice (some ⟨g,0,none⟩) d.length cap:=by
 obtain ⟨raw,h1,h2⟩:=h
 rcases h1.2 with ⟨_,h0⟩ | ⟨g,cap,cur,hv,_⟩
 ·exact absurd (List.eq_nil_of_length_eq_zero h0) hd
 ·exact ⟨g,cap,hv⟩
def Zby (w:World) (g:Nat):Prop:=∃ cur fr,w.heap[g]? = some (.cells cur 204 fr)
theorem Zp2 {B g cap:Nat} {w:World} {d:List Zbu} (h:OwnC tcC 204 B w (.slice (some ⟨g,0,none⟩) d.length cap) d):Zal w g d∧(∀ j,w.frozen? ⟨g,j,none⟩=false)∧g<w.heap.size∧d.length≤cap∧cap≤maxLen∧B≤g∧Zby w g:=by
 have hlt:=OwnC.lt h g rfl
 have hfr:∀ j,w.frozen? ⟨g,j,none⟩=false:=by
  obtain ⟨raw,h1,_⟩:=h
  exact fun j=>World.ownsRow.frozenAt h1 j
 have htm:Zby w g:=by
  obtain ⟨raw,h1,_⟩:=h
  exact (Zp8 h1 rfl).2
 obtain ⟨p,cap',hv,hc1,hc2,_⟩:=h.shape
 simp only [Value.slice.injEq] at hv
 obtain ⟨_,_,rfl⟩:=hv
 refine ⟨fun i hi => ?_,hfr,hlt.2,hc1,hc2,hlt.1,htm⟩
 obtain ⟨vs,hon,hcell,_⟩:=OwnC.elem h hi
 have hon:vs=encT d[i]:=hon
 subst hon
 exact ⟨hcell 0 _ rfl,hcell 1 _ rfl⟩
theorem Zxq {w:World} {g:Nat} (h:Zby w g) (hg:ZaZ w g):False:=by
 obtain ⟨c1,f1,h1⟩:=h
 obtain ⟨c2,f2,h2⟩:=hg
 rw [h1] at h2
 simp only [Option.some.injEq,Obj.cells.injEq] at h2
 exact absurd h2.2.1 (by decide)
theorem Zxr {w:World} {g m:Nat} {F:List UInt8→Option Value} (h:Zby w g) (hm:MapV w g m F):False:=by
 obtain ⟨c1,f1,h1⟩:=h
 obtain ⟨es,c,h2⟩:=hm.obj
 rw [h1] at h2
 cases h2
theorem Zxt {w:World} {g mb m cnt:Nat} {F:List UInt8→Option Value} {left:List UInt8→Bool} (h:Zby w g) (hr:Zbi w mb g m F left cnt):False:=by
 obtain ⟨c1,f1,h1⟩:=h
 obtain ⟨D,lf,hr,_⟩:=hr
 obtain ⟨es,clock,since,seen,c0,g1,g2,g3,g4,g5,rest⟩:=hr
 rw [h1] at g5
 cases g5
theorem OwnZ.shape {w:World} {v:Value} {zs:List Int} (h:OwnZ w v zs):∃ p c,v=.slice p zs.length c:=by
 obtain ⟨p,c,hv,_⟩:=(OwnS.any h).shape
 exact ⟨p,c,hv⟩
end Go.Proofs.YtdijhifdjbnkfaaGreat.EV
namespace Go.Proofs.YtdijhifdjbnkfaaGreat.EV
open Go Go.RowKit Go.Shelf MM EM SM
open TK (Zza Zzb numT Zpa Zo9 KRow KIn Zbv)
open RF (Vows ZaM Left Zsu)
attribute [local go_sem] Oper.semAt_some
def Zai (w:World) (b:Nat) (t:TypeId) (cs:List Value):Prop:=∃ fr,w.heap[b]? = some (.cells cs.toArray t fr)
theorem Zai.new (w:World) (t:TypeId) (cs:List Value):Zai (w.alloc (.cells cs.toArray t)) w.heap.size t cs:=⟨_,heap_alloc_new w _⟩
theorem Zai.kep {S:Nat→Prop} {w w':World} {b:Nat} {t:TypeId} {cs:List Value} (h:Zai w b t cs) (hk:Kep S w w') (hS:S b):Zai w' b t cs:=by
 obtain ⟨fr,h⟩:=h
 exact ⟨fr,(hk.block b (Array.getElem?_eq_some_iff.1 h).1 hS).trans h⟩
theorem Zai.below {w w':World} {b:Nat} {t:TypeId} {cs:List Value} (h:Zai w b t cs) (hb:Below w.heap.size w w'):Zai w' b t cs:=h.kep (ZmT (fun _=>True) hb) trivial
theorem Zai.cell {w:World} {b:Nat} {t:TypeId} {cs:List Value} (h:Zai w b t cs) (i:Nat) (u:Value) (hi:cs[i]? = some u):w.cell? ⟨b,i,none⟩=some u:=by
 obtain ⟨fr,h⟩:=h
 rw [cell_of_row _ _ i _ _ _ h]
 simpa using hi
theorem Zai.not_ints {w:World} {b:Nat} {t:TypeId} {cs:List Value} (h:Zai w b t cs) (ht:t≠3):¬ ZaZ w b:=fun ⟨cur,fr,hc⟩=>by
 obtain ⟨fr2,h⟩:=h
 rw [h] at hc
 simp only [Option.some.injEq,Obj.cells.injEq] at hc
 exact ht hc.2.1
theorem Zai.ne_map {w:World} {b mb m:Nat} {t:TypeId} {cs:List Value} {F:List UInt8→Option Value} (h:Zai w b t cs) (hm:MapV w mb m F):b≠mb:=by
 rintro rfl
 obtain ⟨fr,h⟩:=h
 obtain ⟨es,c,hc⟩:=hm.obj
 rw [h] at hc
 cases hc
theorem Zai.own (t:TypeId) (cs:List Value) (b B:Nat):OwnFrom B (fun (_:Unit) W=>Zai W b t cs):=fun _ W W' row h hg hr=>by
 obtain ⟨fr,h⟩:=h
 refine ⟨fr,(hg.block b (Array.getElem?_eq_some_iff.1 h).1 (fun e => ?_)).trans h⟩
 obtain ⟨_,o,ho,hc⟩:=hr b e.symm
 rw [h] at ho
 cases ho
 cases hc
def Inv (B mb cb:Nat) (w:World) (pre:List Item) (W:World):Prop:=(∃ F,Plc B mb (Zjj [] (ZqI pre)) F W)∧Zai W cb 263 [.map (some mb)]∧Below B w W∧(ZqI pre).length≤4096*pre.length
theorem Zre {B mb D:Nat} (T:List Trm) (F:List UInt8→Option Value) (hm:mb<D):OwnFrom D (fun (_:Unit) W=>Plc B mb T F W):=fun _ W W' row h hg hr =>
 h.keep (S:=fun k=>row≠some k) (ZmW hg fun k hk hne=>hne hk) (fun e=>by have:=(hr mb e).1;omega) fun b ⟨cur,fr,hb⟩ e=>by
  obtain ⟨_,o,ho,hc⟩:=hr b e
  rw [hb] at ho
  cases ho
  cases hc
theorem Zml (B mb cb D:Nat) (w:World) (hm:mb<D) (hB:B≤w.heap.size) (hBD:B≤D):OwnFrom D (Inv B mb cb w):=fun pre W W' row h hg hr=>by
 obtain ⟨⟨F,h1⟩,h2,h3,h4⟩:=h
 exact ⟨⟨F,Zre _ F hm () W W' row h1 hg hr⟩,Zai.own _ _ _ D () W W' row h2 hg hr,ownFrom_below (β:=Unit) (n₀:=B) (B:=D) (w₀:=w) hB hBD () W W' row h3 hg hr,h4⟩
theorem Zbv.own (g B:Nat):OwnFrom B (fun (_:Unit) W=>Zbv W g):=fun _ W W' row h hg hr=>by
 obtain ⟨cur,fr,h⟩:=h
 refine ⟨cur,fr,(hg.block g (Array.getElem?_eq_some_iff.1 h).1 (fun e => ?_)).trans h⟩
 obtain ⟨_,o,ho,hc⟩:=hr g e.symm
 rw [h] at ho
 cases ho
 cases hc
theorem Zyv (D:Nat):OwnFrom D Vow:=fun x W W' row h hg hr=>by
 obtain ⟨⟨g,hv,htg⟩,hk,hrest⟩:=h
 refine ⟨⟨g,hv,Zbv.own g D () W W' row htg hg hr⟩,?_,hrest⟩
 obtain ⟨p,cap,hv,h1,h2,h3⟩:=hk
 refine ⟨p,cap,hv,h1,h2,?_⟩
 rcases h3 with h3 | ⟨b,off,hp,hlt,hc⟩
 ·exact .inl h3
 ·refine .inr ⟨b,off,hp,Nat.lt_of_lt_of_le hlt hg.size,fun i hi => ?_⟩
  exact ⟨cell_kept (hc i hi).1 hg fun r e=>(hr r e).2,cell_kept (hc i hi).2 hg fun r e=>(hr r e).2⟩
def ZbA (w:World) (g:Nat) (ws:List (List UInt8)):Prop:=Zbv w g∧KRow w (.slice (some ⟨g,0,none⟩) ws.length ws.length) (numT ws)
theorem ZbA.kep {S:Nat→Prop} {w w':World} {g:Nat} {ws:List (List UInt8)} (h:ZbA w g ws) (hk:Kep S w w') (hS:S g):ZbA w' g ws:=by
 obtain ⟨⟨cur,fr,ht⟩,p,cap,hv,h1,h2,h3⟩:=h
 have hlt:=(Array.getElem?_eq_some_iff.1 ht).1
 refine ⟨⟨cur,fr,(hk.block g hlt hS).trans ht⟩,p,cap,hv,h1,h2,?_⟩
 rcases h3 with h3 | ⟨b,off,hp,hb,hc⟩
 ·exact .inl h3
 ·simp only [Value.slice.injEq] at hv
  rw [hp] at hv
  simp only [Option.some.injEq,Addr.mk.injEq] at hv
  obtain ⟨⟨rfl,rfl,_⟩,_⟩:=hv
  refine .inr ⟨g,0,hp,Nat.lt_of_lt_of_le hb hk.size,fun i hi => ?_⟩
  rw [hk.cell hb hS,hk.cell hb hS]
  exact hc i hi
theorem ZbA.at_ {w:World} {g:Nat} {ws:List (List UInt8)} (h:ZbA w g ws) {k:Nat} (hk:k<ws.length):w.cell? ⟨g,k*2,none⟩=some (.string ⟨ws[k].toArray⟩)∧w.cell? ⟨g,k*2+1,none⟩=some (.int .i64 (k:Int))∧g<w.heap.size:=by
 obtain ⟨b,off,hp,hb,h1,h2⟩:=KIn.at_ h.2 (k:=k) (by rw [Zpa];exact hk)
 simp only [Option.some.injEq,Addr.mk.injEq] at hp
 obtain ⟨rfl,rfl,_⟩:=hp
 rw [Zo9,Nat.zero_add] at h1 h2
 exact ⟨h1,h2,hb⟩
theorem ZwX {w:World} {g:Nat} (h:Zbv w g) (hg:ZaZ w g):False:=by
 obtain ⟨c1,f1,h1⟩:=h
 obtain ⟨c2,f2,h2⟩:=hg
 rw [h1] at h2
 simp only [Option.some.injEq,Obj.cells.injEq] at h2
 exact absurd h2.2.1 (by decide)
theorem ZwY {w:World} {g m:Nat} {F:List UInt8→Option Value} (h:Zbv w g) (hm:MapV w g m F):False:=by
 obtain ⟨c1,f1,h1⟩:=h
 obtain ⟨es,c,h2⟩:=hm.obj
 rw [h1] at h2
 cases h2
theorem ZmR {S:Nat→Prop} {w w':World} {D:Nat} (hk:Kep S w w') (hS:∀ k,D≤k→k<w.heap.size→¬ S k→∃ o,w.heap[k]? = some o∧o.isCells=true):KeepsFrom D w w' :=
 ⟨hk.size,fun k o hD hk0 ho=>by
  have hlt:=(Array.getElem?_eq_some_iff.1 hk0).1
  by_cases h:S k
  ·rw [hk.block k hlt h];exact hk0
  ·obtain ⟨o2,h2,h3⟩:=hS k hD hlt h
   rw [hk0] at h2
   cases h2
   rw [ho] at h3
   cases h3⟩
theorem Zxs (z:Int) (v:Value) (fs:List Fld) (w:World) (hr:RAny fldC w v fs):Calls Tryz.prog 125 #[.agg #[.int .i64 z,v]] w (Zbx (Zxa (z,fs)) w):=by
 have hbx:=ZdG w z v
 have hck:=ZeI z v fs (ZhU w z v) (hr.below hbx)
 obtain ⟨p,cap,rfl,hlc,hcm,_⟩:=hr.shape
 unfold maxLen at hcm
 have HCK:=Lib.hid hck
 have HBX:=Lib.hid hbx
 clear hck hbx
 by_cases h0:ZeD (z,fs)=0
 ·rw [h0] at HCK
  have e0:Zxa (z,fs)=Zxi fs:=by unfold Zxa;rw [if_neg (by simp [h0])]
  rw [e0]
  obtain ⟨h16,hall⟩:=ZeE.1 h0
  have hnm:∀ f∈fs,f.1.length≤4096:=fun f hf=>by have:=Zoz (hall f hf).1;omega
  have hx:∀ f∈fs,f.2.length≤4096:=fun f hf=>(hall f hf).2
  have HNM:=Lib.hid hnm
  have HX:=Lib.hid hx
  have HR:=Lib.hid hr.bel
  clear h0 e0 hall hnm hx hr
  refine (callsIn_wide (n:=5)).1 ?_
  refine callsIn_of_wp_marks Tryz.func125 rfl trivial ?_ rfl
  simp only [Tryz.ntmps125,List.size_toArray,List.length_cons,List.length_nil,Nat.reduceAdd,Nat.reduceSub,Array.replicate_succ,Array.replicate_zero,List.push_toArray,List.append_toArray,List.nil_append,List.cons_append]
  gi_wp2
  refine ⟨trivial,(callsIn_wide.2 HCK.out).mono ?_⟩
  rintro e w2 ⟨rfl,hb2⟩
  have hB2:=Lib.hid (grow HBX.out hb2)
  obtain ⟨_,cb1,_⟩:=ZdH (hb2)
  have cb0:=(ZdH hb2).1
  have hmm:=@run_makeMap Tryz.prog
  have hlt2:w.heap.size<w2.heap.size:=by have:=hb2.size;rw [ZdK] at this;omega
  obtain ⟨W1,hW1⟩:∃ W1,(w2.alloc (.map #[] 0)).alloc (.cells #[.map (some w2.heap.size)] 263)=W1:=⟨_,rfl⟩
  have hb21:Below w2.heap.size w2 W1:=by rw [← hW1];exact ((Below.refl _ _).alloc (Nat.le_refl _) _).alloc (by simp) _
  have d0:((w2.alloc (.map #[] 0)).alloc (.cells #[.map (some w2.heap.size)] 263)).cell? ⟨w.heap.size,0,none⟩=some (.int .i64 z):=by rw [hW1];exact (hb21.cell (p:=⟨w.heap.size,0,none⟩) hlt2).trans cb0
  have d1:((w2.alloc (.map #[] 0)).alloc (.cells #[.map (some w2.heap.size)] 263)).cell? ⟨w.heap.size,1,none⟩=some (.slice p fs.length cap):=by rw [hW1];exact (hb21.cell (p:=⟨w.heap.size,1,none⟩) hlt2).trans cb1
  have HW1:=Lib.hid hW1
  clear hW1
  clear HCK hb2
  gi_wp2
  refine ⟨trivial,(Ziu 4 z p fs.length cap _).mono ?_⟩
  rintro e w0 ⟨rfl,hw0⟩
  have hBm:w.heap.size≤w2.heap.size:=Nat.le_of_lt hlt2
  have hz0:w0.heap.size=w2.heap.size+1+1+1:=by rw [hw0];simp
  have hP0:Plc w.heap.size w2.heap.size [] (fun _=>none) w0:=by
   rw [hw0]
   exact ((Plc.made w2 w.heap.size hBm).below ((Below.refl _ _).alloc (Nat.le_refl _) _)).below ((Below.refl _ _).alloc (Nat.le_refl _) _)
  have hc0:Zai w0 (w2.heap.size+1) 263 [.map (some w2.heap.size)]:=by
   rw [hw0]
   have:=Zai.new (w2.alloc (.map #[] 0)) 263 [.map (some w2.heap.size)]
   rw [show (w2.alloc (.map #[] 0)).heap.size=w2.heap.size+1 by simp] at this
   exact this.below ((Below.refl _ _).alloc (Nat.le_refl _) _)
  have hv0:w0.cell? ⟨w2.heap.size+1+1,1,none⟩=some (.slice p fs.length cap):=by
   rw [hw0]
   have:=(ZoE ((w2.alloc (.map #[] 0)).alloc (.cells #[.map (some w2.heap.size)] 263)) (.int .i64 z) (.slice p fs.length cap) 57).2
   rwa [show ((w2.alloc (.map #[] 0)).alloc (.cells #[.map (some w2.heap.size)] 263)).heap.size=w2.heap.size+1+1 by simp] at this
  have hb0:Below w.heap.size w w0:=by
   rw [hw0]
   exact hB2.out.trans ((((Below.refl _ _).alloc (Nat.le_refl _) _).alloc (by simp) _).alloc (by simp;omega) _ |>.mono hBm)
  have hI0:Inv w.heap.size w2.heap.size (w2.heap.size+1) w [] w0:=⟨⟨_,hP0⟩,hc0,hb0,by simp [ZqI]⟩
  have hRB:=HR.out.below hb0
  clear hw0 d0 d1 cb0 cb1 hb21 HW1 hP0 hc0
  gi_wp2
  refine Zsu rfl (by omega) (gf:=224) (lb:=#[.pointer (some ⟨w2.heap.size+1+1,0,none⟩)]) rfl trivial (enters_of Tryz.func224 (by kernel_rfl) rfl)
   (Ziv 4 (by omega) (w2.heap.size+1+1) w.heap.size _ fs h16 HNM.out HX.out w0 (by omega) (by omega) hv0 hRB) (Below.refl _ _) (by omega) (fun _=>rfl)
   (fun pre W=>Inv w.heap.size w2.heap.size (w2.heap.size+1) w pre W) (fun _ _=>False) (Zml _ _ _ _ w (by omega) (Nat.le_refl _) (by omega)) (fun _ _ _ _ h _ _=>h) (Zyv _) hI0
   (fun x a' W=>∃ Bx,Zai W Bx 268 [.string ⟨x.2.1.toArray⟩,x.2.2.1]∧w.heap.size≤Bx∧a'={ tmps:=#[.agg #[.int .i64 z,.slice p fs.length cap],.pointer (some ⟨w.heap.size,0,none⟩),.slice none 0 0,.pointer (some ⟨w2.heap.size+1,0,none⟩),.int .i64 x.1,.pointer (some ⟨Bx,0,none⟩),
    undef,undef,undef,undef,undef,undef,.agg #[.int .i64 z,.slice p fs.length cap],.int .i64 0,.bool false,.map (some w2.heap.size),.agg #[.int .i64 z,.slice p fs.length cap],.func (.func 224) #[] #[.pointer (some ⟨w2.heap.size+1+1,0,none⟩)],
    .int .i64 x.1,.agg #[.string ⟨x.2.1.toArray⟩,x.2.2.1],undef,undef,undef,undef,undef,undef,undef,undef,undef,undef,undef,undef,undef,undef,undef,undef,undef,undef,undef,undef,undef,undef,undef,undef,undef,undef,undef,undef,undef,undef,undef,undef,undef,undef,undef,undef,undef,undef,undef,undef,undef,undef,undef,undef],defers:=[] })
   (fun a' x W W' row h hg hr=>by obtain ⟨Bx,h1,h2,h3⟩:=h;exact ⟨Bx,Zai.own _ _ _ _ () W W' row h1 hg hr,h2,h3⟩) ?assign ?body ?done ?stop
  case assign =>
   rintro l pre ⟨bs,nm,tv,ws⟩ W K hI hV hK
   obtain ⟨g,htv,_⟩:=hV.1
   dsimp only at htv
   subst htv
   gi_wp2
   have hbW:Below W.heap.size W (W.alloc (.cells #[.string ⟨nm.toArray⟩,.slice (some ⟨g,0,none⟩) ws.length ws.length] 268)):=(Below.refl _ _).alloc (Nat.le_refl _) _
   have hsW:=hI.2.2.1.size
   refine hK _ _ ((KeepsOthers.alloc _ _).from _) (hbW.mono hsW) ?_ ((Zyv w0.heap.size).alloc (s:=(bs,nm,.slice (some ⟨g,0,none⟩) ws.length ws.length,ws)) _ hV) ⟨W.heap.size,Zai.new W 268 [.string ⟨nm.toArray⟩,.slice (some ⟨g,0,none⟩) ws.length ws.length],hsW,rfl⟩
   exact (Zml _ _ _ w0.heap.size w (by omega) (Nat.le_refl _) (by omega)).alloc (s:=pre) _ hI
  case body =>
   rintro l pre ⟨bs,nm,tv,ws⟩ a' W hDW hInv hVow ⟨Bx,hbx,hBx,rfl⟩ hlen
   obtain ⟨⟨g,htv,htg⟩,hkr,hnl,hwl,hwsl,hbs0,hbs1⟩:=hVow
   dsimp only at hbx htv htg hkr hnl hwl hwsl hbs0 hbs1 ⊢
   subst htv
   have hbx1:=hbx.cell 1 _ rfl
   have hbx0:=hbx.cell 0 _ rfl
   have HIV:=Lib.hid hInv
   have HTA:Hid (ZbA W g ws):=Lib.hid ⟨htg,hkr⟩
   have HBXA:=Lib.hid hbx
   have HWS:=Lib.hid hwsl
   clear hInv htg hkr hbx hI0 hRB hv0 hwsl
   gi_wp2
   obtain ⟨T0,hT0⟩:∃ T0,Zjj [] (ZqI pre)=T0:=⟨_,rfl⟩
   have hres:ZqI (pre++[(bs,nm,.slice (some ⟨g,0,none⟩) ws.length ws.length,ws)])=ZqI pre++ZqQ nm ws bs:=ZqJ _ _
   have HRES:=Lib.hid hres
   have HT0:=Lib.hid hT0
   have hst:Hid (∃ F,Plc w.heap.size w2.heap.size (Zjj T0 (ZqQ nm (ws.take 0) bs)) F W):=Lib.hid (by
    obtain ⟨F,hF⟩:=HIV.out.1
    rw [← hT0]
    exact ⟨F,hF⟩)
   have HCB:=Lib.hid HIV.out.2.1
   have HBW:=Lib.hid HIV.out.2.2.1
   have HPN:=Lib.hid HIV.out.2.2.2
   have hlen16:pre.length≤15:=by omega
   clear hT0 hres hbx1
   gi_loopw [23] (fun iv wr=>∃ k:Nat,k≤ws.length∧iv=.int .i64 k∧Hid (∃ F,Plc w.heap.size w2.heap.size (Zjj T0 (ZqQ nm (ws.take k) bs)) F wr)∧Hid (Zai wr (w2.heap.size+1) 263 [.map (some w2.heap.size)])∧Hid (ZbA wr g ws)∧Hid (Zai wr Bx 268 [.string ⟨nm.toArray⟩,.slice (some ⟨g,0,none⟩) ws.length ws.length])∧Hid (KeepsFrom w0.heap.size W wr)∧Hid (Below w.heap.size W wr)∧W.heap.size≤wr.heap.size) (fun iv _=>ws.length - (intOf iv).toNat)
   case atStart=>exact ⟨0,by omega,rfl,hst,HCB,HTA,HBXA,Lib.hid (KeepsFrom.refl _ _),Lib.hid (Below.refl _ _),Nat.le_refl _⟩
   case round =>
    obtain ⟨k,hk,rfl,HF,HC,HT,HBX2,HKF,HB,hszr⟩:=hrel
    clear hst HTA HBXA
    by_cases hlt:k<ws.length
    ·have q1:decide ((k:Int)<(ws.length:Int))=true:=by rw [decide_eq_true_eq];omega
     have q2:decide (k<ws.length)=true:=by rw [decide_eq_true_eq];omega
     obtain ⟨c1,c2,hgl⟩:=HT.out.at_ hlt
     have hwk:=HWS.out ws[k] (List.getElem_mem hlt)
     have hnx:=ZqR nm hlt bs
     generalize ws[k]=x at *
     have HNX:=Lib.hid hnx
     have HLT:=Lib.hid hlt
     have b1:=(HBX2.out.kep (ZmS (fun _=>True) wr (.cells #[.string ⟨x.toArray⟩,.int .i64 (k:Int)] 134)) trivial).cell 0 _ rfl
     have hx1:(⟨nm.toArray⟩:ByteArray).size≤4096:=by rw [ZwF];exact hnl
     have hx2:(⟨x.toArray⟩:ByteArray).size≤4096:=by rw [ZwF];exact hwk
     clear hnx hlt HIV
     gi_wp2
     have hcat:(⟨nm.toArray⟩:ByteArray)++⟨#[58]⟩++⟨x.toArray⟩=⟨(nm++58::x).toArray⟩:=by
      rw [show (⟨#[58]⟩:ByteArray)=⟨[58].toArray⟩ from rfl,Zee,Zee,List.append_assoc];rfl
     rw [hcat]
     have hsl:(nm++58::x).length≤maxLen:=by rw [List.length_append,List.length_cons];unfold maxLen;omega
     have hnx:=HNX.out
     generalize nm++58::x=s at *
     obtain ⟨F,hF⟩:=HF.out
     obtain ⟨T,hT⟩:∃ T,Zjj T0 (ZqQ nm (ws.take k) bs)=T:=⟨_,rfl⟩
     have hT1:Zjj T0 (ZqQ nm (ws.take (k+1)) bs)=addP T s (bs+(k:Int)):=by rw [hnx,Zjk,Zjo,hT]
     rw [hT] at hF
     have HT1:=Lib.hid hT1
     obtain ⟨wd,hwd⟩:∃ wd,(wr.alloc (.cells #[.string ⟨x.toArray⟩,.int .i64 (k:Int)] 134)).drew=wd:=⟨_,rfl⟩
     have hkd:Below wr.heap.size wr wd:=by rw [← hwd];exact ((Below.refl _ _).alloc (Nat.le_refl _) _).drew
     have hbt:Zai wd wr.heap.size 134 [.string ⟨x.toArray⟩,.int .i64 (k:Int)]:=by rw [← hwd];exact (Zai.new wr 134 [.string ⟨x.toArray⟩,.int .i64 (k:Int)]).kep (ZmV (fun _=>True) _) trivial
     have hPd:=hF.below hkd
     have hCd:=HC.out.below hkd
     have hBd:=HBX2.out.below hkd
     have hTd:=HT.out.kep (ZmT (fun _=>True) hkd) trivial
     have hKFd:KeepsFrom w0.heap.size W wd:=by rw [← hwd];exact ((HKF.out.trans ((KeepsOthers.alloc _ _).from _)).trans ((KeepsOthers.drew _).from _))
     have hBWd:Below w.heap.size W wd:=HB.out.trans (hkd.mono (Nat.le_trans HBW.out.size hszr))
     have hsd:W.heap.size≤wd.heap.size:=Nat.le_trans hszr hkd.size
     have hfd:=hPd.found s
     have HLK:=Lib.hid (fun W' (h:Plc w.heap.size w2.heap.size T F W')=>h.look s hsl)
     have hmx:Tryz.prog.follows .mixedOrders=true:=by kernel_rfl
     have hG3:∀ W',Kep (fun b=>b≠w2.heap.size∧(found F s).ownBlock≠some b) wd W'→W'.cell? ⟨w2.heap.size+1,0,none⟩=some (.map (some w2.heap.size)):=fun W' hW=>(hCd.kep hW ⟨hCd.ne_map hPd.map,fun e=>hCd.not_ints (by decide) (hfd.2 _ e).2.2.1⟩).cell 0 _ rfl
     have hG7:∀ W',Kep (fun b=>b≠w2.heap.size∧(found F s).ownBlock≠some b) wd W'→W'.cell? ⟨wr.heap.size,1,none⟩=some (.int .i64 (k:Int)):=fun W' hW=>(hbt.kep hW ⟨hbt.ne_map hPd.map,fun e=>hbt.not_ints (by decide) (hfd.2 _ e).2.2.1⟩).cell 1 _ rfl
     have hend:∀ W',Kep (fun b=>b≠w2.heap.size∧(found F s).ownBlock≠some b) wd W'→Zai W' (w2.heap.size+1) 263 [.map (some w2.heap.size)]∧ZbA W' g ws∧Zai W' Bx 268 [.string ⟨nm.toArray⟩,.slice (some ⟨g,0,none⟩) ws.length ws.length]∧KeepsFrom w0.heap.size W W'∧Below w.heap.size W W'∧W.heap.size≤W'.heap.size:=fun W' hW=>by
      refine ⟨hCd.kep hW ⟨hCd.ne_map hPd.map,fun e=>hCd.not_ints (by decide) (hfd.2 _ e).2.2.1⟩,hTd.kep hW ⟨fun e=>ZwY hTd.1 (e▸hPd.map),fun e=>ZwX hTd.1 (hfd.2 _ e).2.2.1⟩,hBd.kep hW ⟨hBd.ne_map hPd.map,fun e=>hBd.not_ints (by decide) (hfd.2 _ e).2.2.1⟩,hKFd.trans (ZmR hW fun b hD hb hn => ?_),hBWd.trans (hW.below (by omega) fun b hb=>⟨by omega,fun e=>by have:=(hfd.2 _ e).1;omega⟩),Nat.le_trans hsd hW.size⟩
      by_cases e1:b=w2.heap.size
      ·omega
      ·by_cases e2:(found F s).ownBlock=some b
       ·obtain ⟨cur,fr,hc⟩:=(hfd.2 _ e2).2.2.1
        exact ⟨_,hc,rfl⟩
       ·exact absurd ⟨e1,e2⟩ hn
     have HG3:=Lib.hid hG3
     have HG7:=Lib.hid hG7
     have HEND:=Lib.hid hend
     have HPD:=Lib.hid hPd
     have HFD:=Lib.hid hfd
     have hkB:w.heap.size≤wd.heap.size:=by have:=HBW.out.size;omega
     have hTP:T=Zjj [] (ZqI pre++ZqQ nm (ws.take k) bs):=by rw [Zjk,HT0.out,hT]
     have hql:(ZqI pre++ZqQ nm (ws.take k) bs).length≤100000:=by
      rw [List.length_append,show (ZqQ nm (ws.take k) bs).length=(ws.take k).length by simp [ZqQ],List.length_take]
      have:=HPN.out
      omega
     have hpl:(Zrf T s).length≤100000:=by rw [hTP];exact Nat.le_trans (Zrj _ _) hql
     have htl:T.length≤100000:=by rw [hTP];exact Nat.le_trans (Zjl _ _) (by simpa using hql)
     have HTL:=Lib.hid htl
     have HPL:=Lib.hid hpl
     clear hnx hT1 hF hkd hbt hPd hCd hBd hTd hKFd hBWd hfd hG3 hG7 hend HF HC HT HBX2 HKF HB HNX b1 c1 c2 hcat hT hpl hTP hql htl
     refine RF.ZcI (T:=fun b=>b≠w2.heap.size∧(found F s).ownBlock≠some b) (.take 0<|.take 1<|.take 2<|.take 3<|.take 5<|.take 6<|.take 7<|.take 8<|.both 4 9 (.alone 9<|.alone 10<|.alone 11<|.done) (.alone 4<|.alone 10<|.alone 11<|.done)) hmx (by kernel_rfl) rfl (by kernel_rfl) (fun ⟨_,_,h⟩=>h) (by kernel_rfl) (fun _ _ d _ _ h=>by cases d<;>exact h) ?_
     simp only [RT.ZpY,List.getElem?_toArray,List.getElem?_cons_succ,List.getElem?_cons_zero]
     rw [hwd]
     clear hwd
     repeat (refine RT.take (by rfl) (by intro W' hW;have g3:=HG3.out W' hW;have g7:=HG7.out W' hW;go_simp;with_reducible rfl) ?_;simp only [Act.put,List.setIfInBounds_toArray,List.set_cons_zero,List.set_cons_succ])
     have hwrp:IntKind.i64.wrap (bs+(k:Int))=bs+(k:Int):=by rw [IntWalk.i64_left];exact IntWalk.wrap64_in _ ⟨by omega,by omega⟩
     rw [hwrp]
     clear hwrp
     refine RT.both ?_ ?_
     ·refine RT.step (by rfl) (fun K hK => ?_)
      have hlk:=HLK.out wd HPD.out
      go_simp
      refine hK.out _ _ (Kep.refl _ _) ?_
      clear hK K hlk
      try simp only [Act.put,List.setIfInBounds_toArray,List.set_cons_zero,List.set_cons_succ]
      refine RT.alone (RT.step (by rfl) (fun K hK => ?_))
      go_simp
      refine hK.out _ _ (ZmS _ _ _) ?_
      clear hK K
      try simp only [Act.put,List.setIfInBounds_toArray,List.set_cons_zero,List.set_cons_succ]
      refine RT.alone (RT.step (by rfl) (fun K hK => ?_))
      have hpl:=HPL.out
      refine ZzA intE (S:=NoS) _ _ rfl (found F s) (Zrf T s) wd [.int .i64 (bs+(k:Int))] (bs+(k:Int)) rfl rfl HFD.out.1 rfl rfl (by unfold maxLen;omega) (by omega) ?_
      intro v' w3 ho3 hk3 hg3 hk3'
      refine hK.out _ _ (hk3'.mono fun b hb=>hb.2) ?_
      clear hK K
      try simp only [Act.put,List.setIfInBounds_toArray,List.set_cons_zero,List.set_cons_succ]
      refine RT.alone (RT.step (by rfl) (fun K hK => ?_))
      have htl:=HTL.out
      refine ZzD Tryz.underlying263 _ _ _ rfl w2.heap.size T.length F rfl (HPD.out.map.kep hk3 fun e=>(HFD.out.2 _ e).2.1 rfl) (by unfold maxLen;omega) s v' rfl rfl hsl ?_
      intro w4 hm4 hk4
      refine hK.out _ _ (hk4.mono fun b hb=>hb.1) ?_
      clear hK K hpl htl
      have hput:=HPD.out.put hkB hk3 (OwnZ.of ho3) hg3 hm4 hk4
      rw [← HT1.out] at hput
      have hkep:Kep (fun b=>b≠w2.heap.size∧(found F s).ownBlock≠some b) wd w4:=(hk3.mono fun b hb=>hb.2).trans (hk4.mono fun b hb=>hb.1)
      obtain ⟨n1,n2,n3,n4,n5,n6⟩:=HEND.out w4 hkep
      have HF4:Hid (∃ F,Plc w.heap.size w2.heap.size (Zjj T0 (ZqQ nm (ws.take (k+1)) bs)) F w4):=Lib.hid ⟨_,hput⟩
      have HN1:=Lib.hid n1
      have HN2:=Lib.hid n2
      have HN3:=Lib.hid n3
      have HN4:=Lib.hid n4
      have HN5:=Lib.hid n5
      clear hput hkep n1 n2 n3 n4 n5 hm4 hk4 ho3 hk3 hg3 hk3'
      refine RT.done ?_
      gi_wp2
      have hlt:=HLT.out
      go_roundw
      case rel=>exact ⟨k+1,by omega,by go_num,HF4,HN1,HN2,HN3,HN4,HN5,n6⟩
      case measure=>simp [intOf];omega
     ·refine RT.step (by rfl) (fun K hK => ?_)
      go_simp
      refine hK.out _ _ (ZmS _ _ _) ?_
      clear hK K
      try simp only [Act.put,List.setIfInBounds_toArray,List.set_cons_zero,List.set_cons_succ]
      refine RT.alone (RT.step (by rfl) (fun K hK => ?_))
      have hlk:=HLK.out _ (HPD.out.below ((Below.refl _ _).alloc (Nat.le_refl _) (.cells #[.int .i64 (bs+(k:Int))] 3)))
      go_simp
      refine hK.out _ _ (Kep.refl _ _) ?_
      clear hK K hlk
      try simp only [Act.put,List.setIfInBounds_toArray,List.set_cons_zero,List.set_cons_succ]
      refine RT.alone (RT.step (by rfl) (fun K hK => ?_))
      have hpl:=HPL.out
      refine ZzA intE (S:=NoS) _ _ rfl (found F s) (Zrf T s) wd [.int .i64 (bs+(k:Int))] (bs+(k:Int)) rfl rfl HFD.out.1 rfl rfl (by unfold maxLen;omega) (by omega) ?_
      intro v' w3 ho3 hk3 hg3 hk3'
      refine hK.out _ _ (hk3'.mono fun b hb=>hb.2) ?_
      clear hK K
      try simp only [Act.put,List.setIfInBounds_toArray,List.set_cons_zero,List.set_cons_succ]
      refine RT.alone (RT.step (by rfl) (fun K hK => ?_))
      have htl:=HTL.out
      refine ZzD Tryz.underlying263 _ _ _ rfl w2.heap.size T.length F rfl (HPD.out.map.kep hk3 fun e=>(HFD.out.2 _ e).2.1 rfl) (by unfold maxLen;omega) s v' rfl rfl hsl ?_
      intro w4 hm4 hk4
      refine hK.out _ _ (hk4.mono fun b hb=>hb.1) ?_
      clear hK K hpl htl
      have hput:=HPD.out.put hkB hk3 (OwnZ.of ho3) hg3 hm4 hk4
      rw [← HT1.out] at hput
      have hkep:Kep (fun b=>b≠w2.heap.size∧(found F s).ownBlock≠some b) wd w4:=(hk3.mono fun b hb=>hb.2).trans (hk4.mono fun b hb=>hb.1)
      obtain ⟨n1,n2,n3,n4,n5,n6⟩:=HEND.out w4 hkep
      have HF4:Hid (∃ F,Plc w.heap.size w2.heap.size (Zjj T0 (ZqQ nm (ws.take (k+1)) bs)) F w4):=Lib.hid ⟨_,hput⟩
      have HN1:=Lib.hid n1
      have HN2:=Lib.hid n2
      have HN3:=Lib.hid n3
      have HN4:=Lib.hid n4
      have HN5:=Lib.hid n5
      clear hput hkep n1 n2 n3 n4 n5 hm4 hk4 ho3 hk3 hg3 hk3'
      refine RT.done ?_
      gi_wp2
      have hlt:=HLT.out
      go_roundw
      case rel=>exact ⟨k+1,by omega,by go_num,HF4,HN1,HN2,HN3,HN4,HN5,n6⟩
      case measure=>simp [intOf];omega
    ·obtain rfl:k=ws.length:=by omega
     have q1:decide ((ws.length:Int)<(ws.length:Int))=false:=by simp
     have q2:decide (ws.length<ws.length)=false:=by simp
     gi_wp2
     refine ⟨HKF.out,HB.out,?_,HC.out,HBW.out.trans HB.out,?_⟩
     ·rw [HRES.out,Zjk,HT0.out]
      have:=HF.out
      rw [List.take_length] at this
      exact this
     ·rw [HRES.out,List.length_append,List.length_append,List.length_singleton,show (ZqQ nm ws bs).length=ws.length by simp [ZqQ]]
      have:=HPN.out
      omega
  case stop =>
   rintro D pre W hD _ h _
   exact h.elim
  case done =>
   rintro D xs W hD hT hInv hK
   obtain ⟨⟨F,hF⟩,hC,hB,hN⟩:=hInv
   have hTT:Zjj [] (ZqI xs)=Zxi fs:=by rw [hT.told,List.take_length];rfl
   rw [hTT] at hF
   have hln:(Zxi fs).length≤100000:=by
    rw [← hTT]
    have h1:=Zjl (ZqI xs) ([]:List Trm)
    have h2:=hT.len
    simp only [List.length_nil,Nat.zero_add] at h1
    omega
   generalize Zxi fs=T at *
   have HF:=Lib.hid hF
   have HB:=Lib.hid hB
   have HK:=Lib.hid hK
   have cC:=hC.cell 0 _ rfl
   have hl1:=fun ty=>MapV.len Tryz.underlying263 hF.map ty
   clear hF hB hK hT hTT hN hI0 hRB hv0
   simp only [Exit.then]
   apply_assumption
   refine wpIn_wide.2 ?_
   obtain ⟨iT,hiT,hzT0,hzT1,hzT2⟩:=info_parts (show (Tryz.prog.info? 204).map (fun i=>(i.zero,i.size,i.bytes))=some (some (.agg #[.string ⟨#[]⟩,.slice none 0 0]),2,40) by kernel_rfl)
   have hszW:=HB.out.size
   have HC:=Lib.hid hC
   clear hC
   go_wp2_with (first | (at_make;refine wpList_make_own W rfl _ _ 202 rfl w.heap.size 204 iT (.agg #[.string ⟨#[]⟩,.slice none 0 0]) 2 Tryz.underlying202 hiT hzT0 hzT1 .i64 .i64 _ T.length rfl rfl rfl (by rw [hzT2];omega) (by unfold maxLen;omega) hszW ?_;intro w3 ho3 hg3;have hb3:=(Below.refl W.heap.size W).grown hg3 (Nat.le_refl _) (fun k h=>by cases h);have HF3:=Lib.hid (HF.out.below hb3);have HB3:=Lib.hid (HB.out.trans (hb3.mono hszW));have HB30:=Lib.hid hb3;have cC3:=(HC.out.below hb3).cell 0 _ rfl;have HO3:=Lib.hid ho3;clear ho3 hg3 hb3) | (at_range;go_loud (refine Zzy Tryz.underlying263 rfl _ rfl w2.heap.size _ _ rfl HF3.out.map ?_;intro w4 cnt0 hrg0 hb0 hs0)))
   have hd3:w3.heap[D]? = some (.deferred (some [])):=by
    have hl:=(Array.getElem?_eq_some_iff.1 HK.out).1
    exact (HB30.out.block D hl).trans HK.out
   have hd4:w4.heap[D]? = some (.deferred (some [])):=(hb0.block D (Array.getElem?_eq_some_iff.1 hd3).1).trans hd3
   have hDr:D<w3.heap.size:=(Array.getElem?_eq_some_iff.1 hd3).1
   have HO4:=Lib.hid (Zp5 (Zqe (B:=0) HO3.out hb0))
   have HF4:=Lib.hid (HF3.out.below hb0)
   have HB4:=Lib.hid (HB3.out.trans (hb0.mono HB3.out.size))
   have HR4:=Lib.hid hrg0
   have HD4:=Lib.hid hd4
   have HC0:=Lib.hid (Coll.start F)
   have hBr:w.heap.size≤w3.heap.size:=HB3.out.size
   have hmbr:w2.heap.size<w3.heap.size:=HF3.out.map.lt
   clear hd3 hd4 hb0 hs0 hrg0 HO3 HF3 HB3 HB30 cC3 HF HC HB HK hzT0 hzT1 hzT2 hiT
   go_frame
   go_loopw [9] (fun v wr=>∃ (d:List Zbu) (left:List UInt8→Bool) (cnt g cp:Nat),v=.slice (some ⟨g,0,none⟩) d.length cp∧Hid (OwnC tcC 204 w.heap.size wr (.slice (some ⟨g,0,none⟩) d.length cp) d)∧Hid (Coll F left d)∧Hid (Zbi wr w2.heap.size w3.heap.size T.length F left cnt)∧Hid (Plc w.heap.size w2.heap.size T F wr)∧Hid (Below w.heap.size w wr)∧Hid (wr.heap[D]? = some (.deferred (some [])))) (fun _ wr=>wr.rangeLeft w2.heap.size w3.heap.size)
   case atStart=>exact ⟨[],_,cnt0,_,_,rfl,HO4,HC0,HR4,HF4,HB4,HD4⟩
   case round =>
    obtain ⟨d,left,cnt,g,cp,rfl,HO,HCL,HRG,HF,HB,HD⟩:=hrel
    clear HO4 HC0 HR4 HF4 HB4 HD4
    have hdl:=Zfo HF.out HCL.out
    go_wp2_with (at_next;go_loud (refine Zzx rfl _ rfl w2.heap.size w3.heap.size _ _ left cnt rfl HRG.out ?_ ?_))
    ·intro hl0
     obtain ⟨hcells,hfr,hglt,hcp1,hcp2,hgB,htg⟩:=Zp2 HO.out
     have hsort:=Zwb g cp d wr hcells hfr hglt (by omega)
     have HS:=Lib.hid hsort
     have HTG:=Lib.hid htg
     have HL0:=Lib.hid hl0
     clear hcells hfr hsort htg hl0
     go_wp2_with fail
     refine HS.out.mono ?_
     rintro e w6 ⟨rfl,d',hp',hs',hc',hk'⟩
     have HP':=Lib.hid hp'
     have HS':=Lib.hid hs'
     have HCC:=Lib.hid hc'
     have HKK:=Lib.hid hk'
     clear hp' hs' hc' hk' HS
     go_wp2_with fail
     have hne:D≠g:=fun e=>by
      obtain ⟨cur,fr,hc⟩:=HTG.out
      have:=HD.out
      rw [e,hc] at this
      cases this
     have hK6:w6.heap[D]? = some (.deferred (some [])):=(HKK.out.block D (Array.getElem?_eq_some_iff.1 HD.out).1 hne).trans HD.out
     have hg7:=grownBy_putObj' w6 D (.deferred none)
     have hk7:Kep (fun k=>k≠D) w6 (w6.putObj D (.deferred none)):=ZmW hg7 fun k hk e=>e (Option.some.inj hk).symm
     have hP6:=HF.out.keep HKK.out (fun e=>Zxr HTG.out (e▸HF.out.map)) fun b hb e=>Zxq HTG.out (e▸hb)
     have hP7:=hP6.keep hk7 (by omega) fun b hb e=>by
      obtain ⟨cur,fr,hc⟩:=hb
      rw [e,hK6] at hc
      cases hc
     have hg6:g<w6.heap.size:=Nat.lt_of_lt_of_le hglt HKK.out.size
     have hc7:Zal (w6.putObj D (.deferred none)) g d':=fun i hi=>⟨(hk7.cell hg6 (fun e=>hne e.symm) _).trans (HCC.out i hi).1,(hk7.cell hg6 (fun e=>hne e.symm) _).trans (HCC.out i hi).2⟩
     have hrow:=Zfp hP7 HCL.out HL0.out HP'.out HS'.out hc7 (Nat.lt_of_lt_of_le hg6 hk7.size) hcp1 hcp2 hgB
     have hbl:Below w.heap.size w (w6.putObj D (.deferred none)):=(HB.out.trans (HKK.out.below HB.out.size fun k hk e=>by omega)).grown hg7 (Nat.le_trans HB.out.size HKK.out.size) fun k hk=>by
      have:=Option.some.inj hk
      omega
     refine ⟨by simp,.inl ⟨_,_,rfl,run_takeDeferred hK6,?_⟩⟩
     refine ⟨.slice (some ⟨g,0,none⟩) d.length cp,?_,_,rfl,hrow,hbl⟩
     simp [results,Tryz.f125,go_sem]
    ·intro n v w5 cnt5 hn hl hFn hrg5 hlt5 hk5 hsz5 hen
     obtain ⟨hz,hpne,_⟩:=HF.out.own n v hFn
     obtain ⟨pv,cv,rfl⟩:=hz.shape
     have hone:(Value.slice pv (Zrf T n).length cv).oneCell'=true:=rfl
     have HNX:=Lib.hid (HCL.out.next hone hl hFn)
     have hog:∀ x,(Value.slice (some ⟨g,0,none⟩) d.length cp).ownBlock=some x→x=g:=fun x hx=>(Option.some.inj hx).symm
     obtain ⟨_,_,hglt,_,_,hgB,htg⟩:=Zp2 HO.out
     have hgr:g≠w3.heap.size:=fun e=>Zxt htg (e▸HRG.out)
     have htg5:Zby w5 g:=by
      obtain ⟨cur,fr,hc⟩:=htg
      exact ⟨cur,fr,(hk5.block g hglt hgr).trans hc⟩
     have HTG5:=Lib.hid htg5
     have hr5:=HRG.out.lt
     have HO5:=Lib.hid (Zp3 HO.out hk5 fun x hx=>by rw [hog x hx];exact hgr)
     have hP5:=HF.out.keep hk5 (by omega) fun b hb e=>by
      obtain ⟨cur,fr,hc⟩:=hb
      subst e
      obtain ⟨Dd,lf,hr,_⟩:=HRG.out
      obtain ⟨es,clock,since,seen,c0,g1,g2,g3,g4,g5,rest⟩:=hr
      rw [hc] at g5
      cases g5
     have HP5:=Lib.hid hP5
     have HB5:=Lib.hid (HB.out.trans (hk5.below HB.out.size fun k hk e=>by omega))
     have HD5:=Lib.hid ((hk5.block D (Array.getElem?_eq_some_iff.1 HD.out).1 (by omega)).trans HD.out)
     have HR5:=Lib.hid hrg5
     have HLQ:=Lib.hid hrg5.left_eq
     have HRL:=Lib.hid HRG.out.left_eq
     have HCN:=Lib.hid hlt5
     have hB5:=HB5.out.size
     clear hrg5 hlt5 hFn hk5 hz hpne htg htg5 hr5 hP5 hl hsz5
     go_wp2_with (at_builtin;go_loud (refine Zzo Zw6 rfl _ _ rfl w.heap.size _ d w5 (encT (n,⟨.slice pv (Zrf T n).length cv,hone⟩)) (n,⟨.slice pv (Zrf T n).length cv,hone⟩) rfl rfl HO5.out rfl rfl (by unfold maxLen;omega) (by omega) hB5 ?_;intro v6 w6 ho6 hb6 hk6;obtain ⟨g6,cp6,rfl⟩:=Zp4 ho6 (by simp);have HO6:=Lib.hid ho6;have HBB6:=Lib.hid hb6;have HKK6:=Lib.hid hk6;clear ho6 hb6 hk6))
     have hk6:Kep (fun k=>k≠g) w5 w6:=(ZmS _ _ _).trans (HKK6.out.mono fun k hk e=>hk (hog k e))
     have hr5:=HR5.out.lt
     have hk6r:w3.heap.size≠g:=fun e=>hgr e.symm
     have hmg:w2.heap.size≠g:=fun e=>Zxr HTG5.out (e▸HP5.out.map)
     have HR6:=Lib.hid (HR5.out.kep hk6 hmg hk6r)
     have HP6:=Lib.hid (HP5.out.keep hk6 hmg fun b hb e=>Zxq HTG5.out (e▸hb))
     have HB6:=Lib.hid (HB5.out.trans HBB6.out)
     have HD6:=Lib.hid ((hk6.block D (Array.getElem?_eq_some_iff.1 HD5.out).1 (fun e=>by
      obtain ⟨cur,fr,hc⟩:=HTG5.out
      have:=HD5.out
      rw [e,hc] at this
      cases this)).trans HD5.out)
     clear hk6 hr5 hk6r hmg
     go_wp2_with fail
     go_roundw
     case rel=>exact ⟨_,_,cnt5,g6,cp6,(by rw [List.length_append];rfl),HO6,HNX,HR6,HP6,HB6,HD6⟩
     case measure =>
      rw [HRL.out,HR6.out.left_eq]
      exact HCN.out
 ·have e0:Zxa (z,fs)=[]:=by unfold Zxa;rw [if_pos h0]
  rw [e0]
  obtain ⟨c,hc⟩:∃ c,ZeD (z,fs)=c:=⟨_,rfl⟩
  rw [hc] at HCK h0
  have q1:(c != 0)=true:=by simp [h0]
  clear e0 hc h0 hr
  go_enter Tryz.func125,Tryz.ntmps125
  go_wp2_with fail
  refine HCK.out.mono ?_
  rintro e w2 ⟨rfl,hb2⟩
  have HB2:=Lib.hid (grow HBX.out hb2)
  clear hb2
  go_wp2_with fail
  go_ret
  exact ⟨_,rfl,ROn.nil_ _ _,HB2.out⟩
end Go.Proofs.YtdijhifdjbnkfaaGreat.EV
namespace Go.Proofs.YtdijhifdjbnkfaaGreat.SG
open Go Go.RowKit MM EM SM
open EV (docC fldC Zgn trmC Zx1 RNew Zjl Zrj)
open RM (ZqK ZqO ZqL ZuA)
open GM (Zbs Zv7 evs Zuv)
def Zqy (k:Nat) (T:List Trm):List (List UInt8×Zbd):=T.map fun t=>(t.1,((k:Int),t.2))
theorem Zqz (k:Nat) {T:List Trm} {j:Nat} (hj:j<T.length):Zqy k (T.take (j+1))=Zqy k (T.take j)++[(T[j].1,((k:Int),T[j].2))]:=by
 unfold Zqy
 rw [List.take_succ_eq_append_getElem hj,List.map_append]
 rfl
theorem ZqU (tss:List (List Trm)) (k:Nat):(ZqK 0 (tss.take k)).length≤(ZqK 0 tss).length:=by
 have h:=ZqL (tss.take k) (tss.drop k) 0
 rw [List.take_append_drop] at h
 rw [h,List.length_append]
 omega
theorem Zos {B mb:Nat} {X:Nat→Prop} {T:List (EM.Tr Zbd)} {F:List UInt8→Option Value} {wd w3:World} {s:List UInt8} {v:Value} {ps:List Zbd} (h:Tab B mb X T F wd) (ho:OwnS Zrr 125 (fun b=>X b∧b<wd.heap.size) w3 v ps)
  (hg:∀ g,v.ownBlock=some g→(found F s).ownBlock=some g∨wd.heap.size≤g):OwnS Zrr 125 X w3 v ps :=
 OwnS.weak ho (fun _ _ hb=>hb.1) fun g hgv hx=>by
  rcases hg g hgv with h1 | h1
  ·exact (OwnS.lt (h.found s).1 g h1).2 hx
  ·have:=(h.hi g hx).1;omega
def Zbf (l:List SM.Doc) (w:World) (e:Ending) (w':World):Prop:=∃ mb X F,e=.returned (.tuple #[.map (some mb),.bool true])∧Tab w.heap.size mb X (Zuv l) F w'∧Below w.heap.size w w'
theorem ZrS (v:Value) (l:List SM.Doc) (w:World) (hv:RAny docC w v l) (hS:isS l=true) (hsm:Zbs l):Calls Tryz.prog 75 #[v] w (Zbf l w):=by
 obtain ⟨p,cap,rfl,hlc,hcm,_⟩:=hv.shape
 unfold maxLen at hcm
 have hz:=Zv7 hS hsm
 have hpr:=hz.pairs
 have hrl:=hz.rows
 obtain ⟨tss,htss⟩:∃ tss,(evs l).map Zxa=tss:=⟨_,rfl⟩
 have htl:tss.length=l.length:=by rw [← htss];unfold evs;simp
 have HTK:=Lib.hid (fun (k:Nat) (hk:k<l.length)=>(show ∃ hk':k<tss.length,tss[k]=Zxa l[k].2 by subst htss;exact ⟨by omega,by unfold evs;simp⟩))
 rw [htss] at hpr
 have HPT:=Lib.hid (fun k=>Nat.le_trans (ZqU tss k) hpr)
 have hrow:Zuv l=Zjj [] (ZqK 0 (tss.take l.length)):=by rw [← htl,List.take_length,← htss];rfl
 have HROW:=Lib.hid hrow
 have HV:=Lib.hid hv.bel
 obtain ⟨q0,hq0⟩:∃ q0,w.heap.size=q0:=⟨_,rfl⟩
 obtain ⟨wm,hwm⟩:∃ wm,w.alloc (.map #[] 0)=wm:=⟨_,rfl⟩
 have hbm:Below w.heap.size w wm:=by rw [← hwm];exact (Below.refl _ _).alloc (Nat.le_refl _) _
 have hT0:Tab w.heap.size w.heap.size (fun _=>False) [] (fun _=>Option.none) wm:=by rw [← hwm];exact Tab.made w _ (Nat.le_refl _)
 have H0:Hid (∃ X F,Tab q0 q0 X (Zjj [] (ZqK 0 (tss.take 0))) F wm):=Lib.hid ⟨_,_,by rw [hq0] at hT0;exact hT0⟩
 have HBM:Hid (Below q0 w wm):=Lib.hid (by rw [hq0] at hbm;exact hbm)
 have HWM:=Lib.hid hwm
 have hmm:=@run_makeMap Tryz.prog
 rw [hq0] at HV
 unfold Zbf
 rw [hq0]
 have HQ0:=Lib.hid hq0
 clear hv hS hsm hz hrow htss hwm hbm hT0 hpr
 go_enter Tryz.func75,Tryz.ntmps75
 go_wp2_with (rw [HWM.out])
 have hsw:q0<wm.heap.size:=by
  have:=HWM.out
  rw [← this,← HQ0.out]
  simp
 go_loopw [2,11] (fun mv iv wr=>mv=.map (some q0)∧∃ k:Nat,k≤l.length∧iv=.int .i64 k∧Hid (∃ X F,Tab q0 q0 X (Zjj [] (ZqK 0 (tss.take k))) F wr)∧Hid (Below q0 w wr)) (fun _ iv _=>l.length - (intOf iv).toNat)
 case atStart=>exact ⟨by go_simp,0,by omega,rfl,H0,HBM⟩
 case round =>
  obtain ⟨rfl,k,hk,rfl,HF,HB⟩:=hrel
  clear H0 HBM HWM hsw
  by_cases hlt:k<l.length
  ·have q1:decide ((k:Int)<(l.length:Int))=true:=by rw [decide_eq_true_eq];omega
   have q2:decide (k<l.length)=true:=by rw [decide_eq_true_eq];omega
   have q3:(k:Int)<(l.length:Int):=by omega
   have hBs:q0≤wr.heap.size:=by have:=HB.out.size;have:=HQ0.out;omega
   obtain ⟨b,off,vf,rfl,hbl,_,c1,c2,c3,hf⟩:=Zgn (ROn.keep HV.out (ZmX HB.out) fun _ _ h=>h) hlt
   obtain ⟨hk',htk⟩:=HTK.out k hlt
   obtain ⟨⟨sq,⟨t,fs⟩⟩,hd⟩:∃ d,l[k]=d:=⟨_,rfl⟩
   rw [hd] at c1 c2 hf htk
   dsimp only at c1 c2 hf htk
   obtain ⟨pf,cf,rfl,_⟩:=hf.shape
   obtain ⟨w1,hw1⟩:∃ w1,wr.alloc (.cells #[.int .i64 sq,.int .i64 t,.slice pf fs.length cf] 59)=w1:=⟨_,rfl⟩
   have hb1:Below wr.heap.size wr w1:=by rw [← hw1];exact (Below.refl _ _).alloc (Nat.le_refl _) _
   have HC:=Lib.hid (EV.Zxs t (.slice pf fs.length cf) fs w1 (hf.any.below hb1))
   obtain ⟨T,hT⟩:∃ T,Zxa (t,fs)=T:=⟨_,rfl⟩
   have HSL:=Lib.hid (fun (x:Trm) (hx:x∈T)=>(RM.Zxc (e:=(t,fs)) (by rw [hT];exact hx)).2)
   rw [hT] at HC htk
   have hnx:ZqK 0 (tss.take (k+1))=ZqK 0 (tss.take k)++Zqy k T:=by rw [ZqO hk',htk];rfl
   have hpn:=HPT.out (k+1)
   rw [hnx,List.length_append] at hpn
   obtain ⟨X,F0,hF0⟩:=HF.out
   have hF1:=hF0.below hb1
   obtain ⟨R0,hR0⟩:∃ R0,ZqK 0 (tss.take k)=R0:=⟨_,rfl⟩
   rw [hR0] at hF1 hnx hpn
   have hTl:T.length=(Zqy k T).length:=by unfold Zqy;simp
   have hTl2:T.length≤200000:=by omega
   have HF1:=Lib.hid hF1
   have HB1:=Lib.hid (HB.out.trans (hb1.mono hBs))
   have HW1:=Lib.hid hw1
   have HNX:=Lib.hid hnx
   have HPN:=Lib.hid hpn
   have HLT:=Lib.hid hlt
   have HBS:=Lib.hid hBs
   clear hb1 hw1 hf hd hT htk hnx hpn hF0 hF1 hR0 HF HB hlt hBs hTl
   go_wp2_with fail
   rw [HW1.out]
   refine HC.out.mono ?_
   rintro e w2 ⟨u,rfl,hu,hb2⟩
   obtain ⟨pu,cu,rfl,hcu,hcm2,_⟩:=ROn.shape hu
   unfold maxLen at hcm2
   have hX:=HF1.out.more hb2
   obtain ⟨X',hX'⟩:∃ X':Nat→Prop,(fun b=>X b∨(w1.heap.size≤b∧b<w2.heap.size))=X':=⟨_,rfl⟩
   have hux:ROn trmC X' w2 (.slice pu T.length cu) T:=ROn.weak hu fun b hb h=>by rw [← hX'];exact .inr ⟨h,hb⟩
   rw [hX'] at hX
   have H1:Hid (∃ F,Tab q0 q0 X' (Zjj [] (R0++Zqy k (T.take 0))) F w2):=Lib.hid ⟨F0,by rw [show Zqy k (T.take 0)=[] from rfl,List.append_nil];exact hX⟩
   have HU:=Lib.hid hux
   have HB2:=Lib.hid (HB1.out.trans (hb2.mono (by have:=HB1.out.size;have:=HQ0.out;omega)))
   clear hu hb2 hX hux hX' HC c1 c2 c3 HF1 HB1 HW1
   go_wp2_with fail
   go_loopw [20] (fun jv wj=>∃ j:Nat,j≤T.length∧jv=.int .i64 j∧Hid (∃ F,Tab q0 q0 X' (Zjj [] (R0++Zqy k (T.take j))) F wj)∧Hid (ROn trmC X' wj (.slice pu T.length cu) T)∧Hid (Below q0 w wj)) (fun jv _=>T.length - (intOf jv).toNat)
   case atStart=>exact ⟨0,by omega,rfl,H1,HU,HB2⟩
   case round =>
    obtain ⟨j,hj,rfl,HF,HU2,HB⟩:=hrel
    clear H1 HU HB2
    by_cases hlj:j<T.length
    ·have r1:decide ((j:Int)<(T.length:Int))=true:=by rw [decide_eq_true_eq];omega
     have r2:decide (j<T.length)=true:=by rw [decide_eq_true_eq];omega
     have r3:(j:Int)<(T.length:Int):=by omega
     obtain ⟨g,o,pv,rfl,hgl,hgX,d0,d1,hzs⟩:=Zx1 HU2.out hlj
     have hpk:=Zqz k hlj
     have hBs:q0≤wr.heap.size:=by have:=HB.out.size;have:=HQ0.out;omega
     obtain ⟨⟨s,zs⟩,hts⟩:∃ x,T[j]=x:=⟨_,rfl⟩
     rw [hts] at d0 hzs hpk
     dsimp only at d0 hzs hpk
     obtain ⟨pz,cz,rfl,_⟩:=hzs.shape
     have hsl:s.length≤maxLen:=by
      have:=HSL.out T[j] (List.getElem_mem hlj)
      rw [hts] at this
      dsimp only at this
      unfold maxLen
      omega
     obtain ⟨F,hF⟩:=HF.out
     obtain ⟨R,hR⟩:∃ R,Zjj [] (R0++Zqy k (T.take j))=R:=⟨_,rfl⟩
     have hR1:Zjj [] (R0++Zqy k (T.take (j+1)))=addP R s ((k:Int),zs):=by rw [hpk,← List.append_assoc,Zjk,hR];rfl
     have hql:(R0++Zqy k (T.take j)).length≤200000:=by
      have:=HPN.out
      have e:(Zqy k (T.take j)).length≤(Zqy k T).length:=by unfold Zqy;rw [List.length_map,List.length_map,List.length_take];omega
      rw [List.length_append]
      omega
     have hpl:(Zrf R s).length≤200000:=by rw [← hR];exact Nat.le_trans (Zrj _ _) hql
     have htl2:R.length≤200000:=by rw [← hR];exact Nat.le_trans (Zjl _ _) (by simpa using hql)
     rw [hR] at hF
     obtain ⟨wd,hwd⟩:∃ wd,(wr.alloc (.cells #[.string ⟨s.toArray⟩,.slice pz zs.length cz] 204)).drew=wd:=⟨_,rfl⟩
     have hkd:Below wr.heap.size wr wd:=by rw [← hwd];exact ((Below.refl _ _).alloc (Nat.le_refl _) _).drew
     have hbt:Two wd wr.heap.size 204 (.string ⟨s.toArray⟩) (.slice pz zs.length cz):=by rw [← hwd];exact (Zyf wr 204 _ _).keep (ZmV (fun _=>True) _) trivial
     have hPd:=hF.below hkd
     have hfd:=hPd.found s
     have hfw:=hF.found s
     have hmbl:=hF.map.lt
     have hUd:ROn trmC X' wd (.slice (some ⟨g,o,none⟩) T.length cu) T:=ROn.keep HU2.out (ZmT _ hkd) fun _ _ h=>h
     have hzd:ROn cInt X' wd (.slice pz zs.length cz) zs:=ROn.keep hzs (ZmT _ hkd) fun _ _ h=>h
     have hmx:Tryz.prog.follows .mixedOrders=true:=by kernel_rfl
     have hG:∀ W',Kep (fun b=>b≠q0∧(found F s).ownBlock≠some b) wd W'→W'.cell? ⟨wr.heap.size,0,none⟩=some (.string ⟨s.toArray⟩)∧W'.cell? ⟨wr.heap.size,1,none⟩=some (.slice pz zs.length cz):=fun W' hW =>
      have h:=hbt.keep hW ⟨by omega,fun e=>by have:=(hfw.2 _ e).2.2;omega⟩
      ⟨h.c0,h.c1⟩
     have hend:∀ W',Kep (fun b=>b≠q0∧(found F s).ownBlock≠some b) wd W'→ROn trmC X' W' (.slice (some ⟨g,o,none⟩) T.length cu) T∧Below q0 w W':=fun W' hW =>
      ⟨ROn.keep hUd (hW.mono' fun b _ hb=>⟨(hPd.hi b hb).2,fun e=>(OwnS.lt hfd.1 b e).2 hb⟩) fun _ _ h=>h,
       (HB.out.trans (hkd.mono hBs)).trans (hW.below (by have:=hkd.size;omega) fun b hb=>⟨by omega,fun e=>by have:=(hfd.2 _ e).1;omega⟩)⟩
     have HG:=Lib.hid hG
     have HEND:=Lib.hid hend
     have HPD:=Lib.hid hPd
     have HFD:=Lib.hid hfd
     have HR1:=Lib.hid hR1
     have HZD:=Lib.hid hzd
     have HLJ:=Lib.hid hlj
     have HLK:=Lib.hid (fun W' (h:Tab q0 q0 X' R F W')=>h.look s hsl)
     have HTL:=Lib.hid htl2
     have HPL:=Lib.hid hpl
     have hkB:q0≤wd.heap.size:=by have:=hkd.size;omega
     clear hpk hts hzs hR1 hql hpl htl2 hF hkd hbt hPd hfd hfw hmbl hUd hzd hG hend hR HF HU2 HB hlj
     go_wp2_with fail
     refine RT.ZcJ (T:=fun b=>b≠q0∧(found F s).ownBlock≠some b) (.take 0<|.take 1<|.take 2<|.take 3<|.take 4<|.take 5<|.take 7<|.take 8<|.take 9<|.take 10<|.both 6 11 (.alone 11<|.alone 12<|.alone 13<|.done) (.alone 6<|.alone 12<|.alone 13<|.done)) hmx (by kernel_rfl) rfl (by kernel_rfl) (fun _ _ d _ _ h=>by cases d<;>exact h) ?_
     simp only [RT.ZpY,List.getElem?_toArray,List.getElem?_cons_succ,List.getElem?_cons_zero]
     rw [hwd]
     clear hwd
     repeat (refine RT.take (by rfl) (by intro W' hW;obtain ⟨g3,g7⟩:=HG.out W' hW;go_simp;with_reducible rfl) ?_;simp only [Act.put,List.setIfInBounds_toArray,List.set_cons_zero,List.set_cons_succ])
     refine RT.both ?_ ?_
     ·refine RT.step (by rfl) (fun K hK => ?_)
      have hlk:=HLK.out wd HPD.out
      go_simp
      refine hK.out _ _ (Kep.refl _ _) ?_
      clear hK K hlk
      try simp only [Act.put,List.setIfInBounds_toArray,List.set_cons_zero,List.set_cons_succ]
      refine RT.alone (RT.step (by rfl) (fun K hK => ?_))
      go_simp
      refine hK.out _ _ (ZmS _ _ _) ?_
      clear hK K
      try simp only [Act.put,List.setIfInBounds_toArray,List.set_cons_zero,List.set_cons_succ]
      refine RT.alone (RT.step (by rfl) (fun K hK => ?_))
      have hpl:=HPL.out
      refine ZzA Zrs (S:=X') _ _ rfl (found F s) (Zrf R s) wd [.int .i64 (k:Int),.slice pz zs.length cz] ((k:Int),zs) rfl rfl HFD.out.1 (Zrv.2 ⟨_,rfl,HZD.out⟩) rfl (by unfold maxLen;omega) (by omega) ?_
      intro v' w3 ho3 hk3 hg3 hk3'
      refine hK.out _ _ (hk3'.mono fun b hb=>hb.2) ?_
      clear hK K
      try simp only [Act.put,List.setIfInBounds_toArray,List.set_cons_zero,List.set_cons_succ]
      refine RT.alone (RT.step (by rfl) (fun K hK => ?_))
      have htl:=HTL.out
      refine ZzD Tryz.underlying136 _ _ _ rfl q0 R.length F rfl (HPD.out.map.kep hk3 fun e=>(HFD.out.2 _ e).2.1 rfl) (by unfold maxLen;omega) s v' rfl rfl hsl ?_
      intro w4 hm4 hk4
      refine hK.out _ _ (hk4.mono fun b hb=>hb.1) ?_
      clear hK K hpl htl
      have hput:=HPD.out.put hkB hk3 (Zos HPD.out ho3 hg3) hg3 hm4 hk4
      rw [← HR1.out] at hput
      have hkep:Kep (fun b=>b≠q0∧(found F s).ownBlock≠some b) wd w4:=(hk3.mono fun b hb=>hb.2).trans (hk4.mono fun b hb=>hb.1)
      obtain ⟨n1,n2⟩:=HEND.out w4 hkep
      have HF4:Hid (∃ F,Tab q0 q0 X' (Zjj [] (R0++Zqy k (T.take (j+1)))) F w4):=Lib.hid ⟨_,hput⟩
      have HN1:=Lib.hid n1
      have HN2:=Lib.hid n2
      clear hput hkep n1 n2 hm4 hk4 ho3 hk3 hg3 hk3'
      refine RT.done ?_
      go_wp2_with fail
      have hlj:=HLJ.out
      go_roundw
      case rel=>exact ⟨j+1,by omega,by go_num,HF4,HN1,HN2⟩
      case measure=>simp [intOf];omega
     ·refine RT.step (by rfl) (fun K hK => ?_)
      go_simp
      refine hK.out _ _ (ZmS _ _ _) ?_
      clear hK K
      try simp only [Act.put,List.setIfInBounds_toArray,List.set_cons_zero,List.set_cons_succ]
      refine RT.alone (RT.step (by rfl) (fun K hK => ?_))
      have hlk:=HLK.out _ (HPD.out.below ((Below.refl _ _).alloc (Nat.le_refl _) (.cells #[.int .i64 (k:Int),.slice pz zs.length cz] 125)))
      go_simp
      refine hK.out _ _ (Kep.refl _ _) ?_
      clear hK K hlk
      try simp only [Act.put,List.setIfInBounds_toArray,List.set_cons_zero,List.set_cons_succ]
      refine RT.alone (RT.step (by rfl) (fun K hK => ?_))
      have hpl:=HPL.out
      refine ZzA Zrs (S:=X') _ _ rfl (found F s) (Zrf R s) wd [.int .i64 (k:Int),.slice pz zs.length cz] ((k:Int),zs) rfl rfl HFD.out.1 (Zrv.2 ⟨_,rfl,HZD.out⟩) rfl (by unfold maxLen;omega) (by omega) ?_
      intro v' w3 ho3 hk3 hg3 hk3'
      refine hK.out _ _ (hk3'.mono fun b hb=>hb.2) ?_
      clear hK K
      try simp only [Act.put,List.setIfInBounds_toArray,List.set_cons_zero,List.set_cons_succ]
      refine RT.alone (RT.step (by rfl) (fun K hK => ?_))
      have htl:=HTL.out
      refine ZzD Tryz.underlying136 _ _ _ rfl q0 R.length F rfl (HPD.out.map.kep hk3 fun e=>(HFD.out.2 _ e).2.1 rfl) (by unfold maxLen;omega) s v' rfl rfl hsl ?_
      intro w4 hm4 hk4
      refine hK.out _ _ (hk4.mono fun b hb=>hb.1) ?_
      clear hK K hpl htl
      have hput:=HPD.out.put hkB hk3 (Zos HPD.out ho3 hg3) hg3 hm4 hk4
      rw [← HR1.out] at hput
      have hkep:Kep (fun b=>b≠q0∧(found F s).ownBlock≠some b) wd w4:=(hk3.mono fun b hb=>hb.2).trans (hk4.mono fun b hb=>hb.1)
      obtain ⟨n1,n2⟩:=HEND.out w4 hkep
      have HF4:Hid (∃ F,Tab q0 q0 X' (Zjj [] (R0++Zqy k (T.take (j+1)))) F w4):=Lib.hid ⟨_,hput⟩
      have HN1:=Lib.hid n1
      have HN2:=Lib.hid n2
      clear hput hkep n1 n2 hm4 hk4 ho3 hk3 hg3 hk3'
      refine RT.done ?_
      go_wp2_with fail
      have hlj:=HLJ.out
      go_roundw
      case rel=>exact ⟨j+1,by omega,by go_num,HF4,HN1,HN2⟩
      case measure=>simp [intOf];omega
    ·obtain rfl:j=T.length:=by omega
     have r1:decide ((T.length:Int)<(T.length:Int))=false:=by simp
     have r2:decide (T.length<T.length)=false:=by simp
     have hf:=HF.out
     rw [List.take_length,← HNX.out] at hf
     obtain ⟨F,hF⟩:=hf
     have hln:=Zjl (ZqK 0 (tss.take (k+1))) ([]:List (EM.Tr Zbd))
     have hln2:=HPT.out (k+1)
     rw [List.length_nil,Nat.zero_add] at hln
     have hL:=fun ty=>hF.len ty
     obtain ⟨N,hN⟩:∃ N,(Zjj [] (ZqK 0 (tss.take (k+1)))).length=N:=⟨_,rfl⟩
     rw [hN] at hln
     simp only [hN] at hL
     have s1:decide ((N:Int)>262144)=false:=by rw [decide_eq_false_iff_not];omega
     have s2:decide (262144<N)=false:=by rw [decide_eq_false_iff_not];omega
     have HF9:Hid (∃ X F,Tab q0 q0 X (Zjj [] (ZqK 0 (tss.take (k+1)))) F wr):=Lib.hid ⟨_,_,hF⟩
     clear hF hN hln hln2 HF HU2 hlj
     go_wp2_with fail
     have hlt:=HLT.out
     go_roundw
     case rel=>exact ⟨rfl,k+1,by omega,by go_num,HF9,HB⟩
     case measure=>simp [intOf];omega
  ·obtain rfl:k=l.length:=by omega
   have q1:decide ((l.length:Int)<(l.length:Int))=false:=by simp
   have q2:decide (l.length<l.length)=false:=by simp
   have hf:=HF.out
   rw [← HROW.out] at hf
   have HF9:=Lib.hid hf
   clear HF hf hlt
   go_wp2_with fail
   go_ret2
   obtain ⟨X,F,hF⟩:=HF9.out
   exact ⟨_,X,F,rfl,hF,HB.out⟩
end Go.Proofs.YtdijhifdjbnkfaaGreat.SG
