/-
  
-/
import Derived.Test.YtdijhifdjbnkfaaGreatZA9
import Derived.Test.YtdijhifdjbnkfaaGreatZA1
import Derived.Deep.QuietTactic
import Derived.BigQuiet
import Derived.Test.YtdijhifdjbnkfaaGreatZA3
import Derived.Test.YtdijhifdjbnkfaaGreatZA6
import Derived.Test.YtdijhifdjbnkfaaGreatZA7
set_option linter.unusedVariables false
namespace Go.Proofs.YtdijhifdjbnkfaaGreat.MM
open Go Go.RowKit
def cVal:Codec Value where
 size:=1
 on:=fun _ _ vs u=>vs=[u]∧u.oneCell'=true
 pos:=by decide
 len:=fun h=>by rw [h.1];rfl
 keep:=fun h _ _=>h
 one:=fun h u hu=>by rw [h.1] at hu;simp at hu;rw [hu];exact h.2
abbrev RawP:=List UInt8×Value
def rawP:Codec RawP:=cPair cStr cVal
theorem raw_on {S:Nat→Prop} {w:World} {vs:List Value} {p:RawP}:rawP.on S w vs p↔vs=[.string ⟨p.1.toArray⟩,p.2]∧p.2.oneCell'=true:=by
 constructor
 ·rintro ⟨x,y,h,h1,h2,h3⟩
  have h1:x=[.string ⟨p.1.toArray⟩]:=h1
  exact ⟨by rw [h,h1,h2];rfl,h3⟩
 ·rintro ⟨h,h1⟩
  exact ⟨[.string ⟨p.1.toArray⟩],[p.2],h,rfl,rfl,h1⟩
theorem raw_x {e:TypeId} {B:Nat} {w:World} {v:Value} {ps:List RawP} (h:OwnX rawP e B (fun _=>False) w v ps):OwnC rawP e B w v ps:=by
 obtain ⟨raw,h1,h2⟩:=h
 exact ⟨raw,h1,h2.keep (Kep.refl _ _) fun _ _ h=>h.elim⟩
theorem raw_c {e:TypeId} {B:Nat} {w:World} {v:Value} {ps:List RawP} (h:OwnC rawP e B w v ps):OwnX rawP e B (fun _=>False) w v ps:=by
 obtain ⟨raw,h1,h2⟩:=h
 exact ⟨raw,h1,h2.1,fun i hi hi'=>raw_on.2 (raw_on.1 (h2.2 i hi hi'))⟩
def Free (v:Value) (us:List Value) (b:Nat):Prop:=v.ownBlock≠some b∧∀ u∈us,u.ownBlock≠some b
variable {α : Type} {D : Codec α} {e1 e2 : TypeId} {B : Nat}
structure RowsAt (D:Codec α) (e1 e2:TypeId) (B:Nat) (w:World) (v:Value) (us:List Value) (rows:List (List UInt8×List α)):Prop where
 len:us.length=rows.length
 outer:OwnX rawP e1 B (fun _=>False) w v (List.zip (rows.map (·.1)) us)
 inner:∀ i (h:i<us.length) (h':i<rows.length),OwnX D e2 B (Free v us) w us[i] rows[i].2
 apart:∀ i j (h:i<us.length) (h':j<us.length) g,us[i].ownBlock=some g→us[j].ownBlock=some g→i=j
variable {w : World} {v : Value} {us : List Value} {rows : List (List UInt8 × List α)}
theorem RowsAt.kep {w':World} (h:RowsAt D e1 e2 B w v us rows) (hk:Kep (fun _=>True) w w'):RowsAt D e1 e2 B w' v us rows :=
 ⟨h.len,h.outer.keep hk (fun _ _ _=>trivial) (fun _ _=>trivial),fun i hi hi'=>(h.inner i hi hi').keep hk (fun _ _ _=>trivial) (fun _ _=>trivial),h.apart⟩
theorem RowsAt.below {w':World} (h:RowsAt D e1 e2 B w v us rows) (hb:Below w.heap.size w w'):RowsAt D e1 e2 B w' v us rows:=h.kep (kep_below _ hb)
theorem RowsAt.zlen (h:RowsAt D e1 e2 B w v us rows):(List.zip (rows.map (·.1)) us).length=rows.length:=by rw [List.length_zip,List.length_map,h.len,Nat.min_self]
theorem RowsAt.shape (h:RowsAt D e1 e2 B w v us rows):∃ p cap,v=.slice p rows.length cap∧rows.length≤cap∧cap≤maxLen∧(p=none→cap=0):=by
 have:=h.outer.any.shape
 rw [h.zlen] at this
 exact this
theorem RowsAt.one (h:RowsAt D e1 e2 B w v us rows) {i:Nat} (hi:i<us.length):us[i].oneCell'=true:=(h.inner i hi (by rw [← h.len];exact hi)).any.oneCell
theorem RowsAt.olt (h:RowsAt D e1 e2 B w v us rows) {g:Nat} (hg:v.ownBlock=some g):B≤g∧g<w.heap.size:=⟨(h.outer.cells hg).1,(h.outer.cells hg).2.1⟩
theorem RowsAt.ilt (h:RowsAt D e1 e2 B w v us rows) {i:Nat} (hi:i<us.length) {g:Nat} (hg:us[i].ownBlock=some g):B≤g∧g<w.heap.size :=
 have:=(h.inner i hi (by rw [← h.len];exact hi)).cells hg;⟨this.1,this.2.1⟩
theorem RowsAt.out (h:RowsAt D e1 e2 B w v us rows) (he:e1≠e2) {i:Nat} (hi:i<us.length) {g:Nat} (hg:us[i].ownBlock=some g):v.ownBlock≠some g:=fun hv=>by
 obtain ⟨_,_,c1,f1,h1⟩:=h.outer.cells hv
 obtain ⟨_,_,c2,f2,h2⟩:=(h.inner i hi (by rw [← h.len];exact hi)).cells hg
 rw [h1] at h2
 simp only [Option.some.injEq,Obj.cells.injEq] at h2
 exact he h2.2.1
theorem RowsAt.at_ (h:RowsAt D e1 e2 B w v us rows) {k:Nat} (hk:k<us.length) (hk':k<rows.length):∃ g cap,v=.slice (some ⟨g,0,none⟩) rows.length cap∧g<w.heap.size∧B≤g ∧
  w.cell? ⟨g,k*2,none⟩=some (.string ⟨rows[k].1.toArray⟩)∧w.cell? ⟨g,k*2+1,none⟩=some us[k]∧(∀ j,w.frozen? ⟨g,j,none⟩=false):=by
 have hz:=h.zlen
 have hkz:k<(List.zip (rows.map (·.1)) us).length:=by rw [hz];exact hk'
 have hC:=raw_x h.outer
 obtain ⟨p,cap,hv,hle,_,hp⟩:=h.shape
 have ho:=h.outer
 obtain ⟨raw,ho1,_⟩:=ho
 rcases ho1.2 with ⟨_,h0⟩ | ⟨g,cap',cur,hv',hg,hh,_⟩
 ·rw [hz] at h0;omega
 ·rw [hz] at hv'
  rw [hv'] at hC
  obtain ⟨vs,hvs,hc,hf,_⟩:=hC.elem hkz
  have hv2:=(raw_on.1 hvs).1
  simp only [List.getElem_zip,List.getElem_map] at hv2
  refine ⟨g,cap',hv',(Array.getElem?_eq_some_iff.1 hh).1,hg,?_,?_,hf⟩
  ·have:=hc 0 _ (by rw [hv2];rfl)
   exact this
  ·exact hc 1 _ (by rw [hv2];rfl)
theorem zip_set {β γ:Type}:∀ (xs:List β) (ys:List γ) (k:Nat) (u:γ) (h1:k<xs.length) (h2:xs.length=ys.length),List.zip xs (ys.set k u)=(List.zip xs ys).set k (xs[k],u)
 | x::xs,y::ys,0,u,_,_=>rfl
 | x::xs,y::ys,k+1,u,h1,h2=>by
   rw [List.set_cons_succ,List.zip_cons_cons,List.zip_cons_cons,List.set_cons_succ,zip_set xs ys k u (by simpa using h1) (by simpa using h2)]
   rfl
theorem RowsAt.hit {w':World} (he:e1≠e2) (h:RowsAt D e1 e2 B w v us rows) {k:Nat} (hk:k<us.length) (hk':k<rows.length) {u':Value} {es:List α} (hu:OwnX D e2 B (fun b=>b<w.heap.size∧Free v us b) w' u' es)
  (hkp:Kep (fun b=>us[k].ownBlock≠some b) w w') (hat:∀ g,u'.ownBlock=some g→us[k].ownBlock=some g∨w.heap.size≤g) {g n cap:Nat} (hv:v=.slice (some ⟨g,0,none⟩) n cap) :
  RowsAt D e1 e2 B (w'.setCell ⟨g,k*2+1,none⟩ u') v (us.set k u') (rows.set k (rows[k].1,es)):=by
 have hvb:v.ownBlock=some g:=by rw [hv];rfl
 have hub:u'.ownBlock≠some g:=fun e=>by
  rcases hat g e with h1 | h1
  ·exact h.out he hk h1 hvb
  ·have:=(h.olt hvb).2;omega
 have hset:Kep (fun b=>b≠g) w' (w'.setCell ⟨g,k*2+1,none⟩ u'):=kep_set (fun h=>h rfl) u'
 have hone:=hu.any.oneCell
 have hfree:∀ b,(b<w.heap.size∧Free v us b)→Free v (us.set k u') b:=fun b ⟨hb,hf⟩=>⟨hf.1,fun u hm e=>by
  rcases List.mem_or_eq_of_mem_set hm with hm | rfl
  ·exact hf.2 u hm e
  ·rcases hat b e with h1 | h1
   ·exact hf.2 _ (List.getElem_mem hk) h1
   ·omega⟩
 have hfin:∀ {u:Value} {xs:List α},OwnX D e2 B (fun b=>b<w.heap.size∧Free v us b) w' u xs→u.ownBlock≠some g→OwnX D e2 B (Free v (us.set k u')) (w'.setCell ⟨g,k*2+1,none⟩ u') u xs:=fun h1 hne =>
  OwnX.weak (h1.keep hset (fun b _ hb e=>hb.2.1 (by rw [e];exact hvb)) (fun b hb e=>hne (by rw [← e];exact hb))) fun b _ hb=>hfree b hb
 have houter:OwnX rawP e1 B (fun _=>False) w' v (List.zip (rows.map (·.1)) us):=h.outer.keep hkp (fun _ _ h=>h.elim) fun g' hg'=>fun e=>h.out he hk e hg'
 refine ⟨by rw [List.length_set,List.length_set];exact h.len,?_,fun i hi hi' => ?_,fun i j hi hj b hib hjb => ?_⟩
 ·have hz:k<(List.zip (rows.map (·.1)) us).length:=by rw [h.zlen];exact hk'
  have hC:=raw_x houter
  rw [hv] at hC
  obtain ⟨vs,hvs,_,_,hst⟩:=hC.elem hz
  have hv2:=(raw_on.1 hvs).1
  have hnew:=hst 1 u' (rows[k].1,u') (by show 1<2;omega) (raw_on.2 ⟨by rw [hv2];simp,hone⟩)
  have e1':List.zip ((rows.set k (rows[k].1,es)).map (·.1)) (us.set k u')=(List.zip (rows.map (·.1)) us).set k (rows[k].1,u'):=by
   rw [List.map_set]
   have:(rows.map (·.1)).set k rows[k].1=rows.map (·.1):=by
    apply List.ext_getElem (by simp)
    intro i hi hi'
    rw [List.getElem_set]
    split
    ·rename_i hik;subst hik;simp
    ·rfl
   rw [this,zip_set _ _ _ _ (by simpa using hk') (by rw [List.length_map,h.len])]
   simp
  rw [e1',hv]
  exact raw_c hnew
 ·rw [List.length_set] at hi hi'
  by_cases hik:k=i
  ·subst hik
   simp only [List.getElem_set_self]
   exact hfin hu hub
  ·rw [List.getElem_set_ne hik,List.getElem_set_ne hik]
   exact hfin ((OwnX.weak (h.inner i hi hi') fun b hb hf=>⟨hb,hf⟩).keep hkp (fun b _ hf=>hf.2.2 _ (List.getElem_mem hk)) (fun b hb e=>hik (h.apart k i hk hi b e hb))) (fun e=>h.out he hi e hvb)
 ·rw [List.length_set] at hi hj
  by_cases hki:k=i
  ·by_cases hkj:k=j
   ·omega
   ·subst hki
    rw [List.getElem_set_self] at hib
    rw [List.getElem_set_ne hkj] at hjb
    rcases hat b hib with h1 | h1
    ·exact h.apart k j hk hj b h1 hjb
    ·have:=(h.ilt hj hjb).2;omega
  ·rw [List.getElem_set_ne hki] at hib
   by_cases hkj:k=j
   ·subst hkj
    rw [List.getElem_set_self] at hjb
    rcases hat b hjb with h1 | h1
    ·exact h.apart i k hi hk b hib h1
    ·have:=(h.ilt hi hib).2;omega
   ·rw [List.getElem_set_ne hkj] at hjb
    exact h.apart i j hi hj b hib hjb
theorem RowsAt.any (h:RowsAt D e1 e2 B w v us rows):RAny (cPair cStr (cRow D)) w v rows:=by
 obtain ⟨p,cap,raw,hv,h1,h2,h3,hm,hc⟩:=h.outer.any
 rw [h.zlen] at hv h1
 refine ⟨p,cap,raw,hv,h1,h2,h3,⟨by rw [hm.1,h.zlen],fun i hi hi' => ?_⟩,?_⟩
 ·have hz:i<(List.zip (rows.map (·.1)) us).length:=by rw [← hm.1];exact hi
  have hiu:i<us.length:=by rw [h.len];exact hi'
  have:=raw_on.1 (hm.2 i hi hz)
  simp only [List.getElem_zip,List.getElem_map] at this
  exact ⟨[.string ⟨rows[i].1.toArray⟩],[us[i]],this.1,rfl,us[i],rfl,(h.inner i hiu hi').any⟩
 ·rcases hc with hc | hc
  ·left
   have:=h.zlen
   rw [hc] at this
   exact List.eq_nil_of_length_eq_zero this.symm
  ·exact .inr hc
end Go.Proofs.YtdijhifdjbnkfaaGreat.MM
set_option linter.unusedVariables false
namespace Go.Proofs.YtdijhifdjbnkfaaGreat.MM
open Go Go.RowKit
theorem text_index {s:ByteArray} {l:List UInt8} (hl:s.data.toList=l) {i:Nat} {c:UInt8} (hi:l[i]? = some c) (W:World):(Instr.index 9 (.string s) (.int .i64 (i:Int))).run Tryz.prog W=.ok (.int .u8 (c.toNat:Int)) W:=by
 obtain ⟨hlt,he⟩:=List.getElem?_eq_some_iff.1 hi
 have hsz:s.size=l.length:=by rw [Lib.size_eq,hl]
 rw [run_index_string W 9 s .i64 i Tryz.underlying9,dif_pos ⟨by omega,by omega⟩]
 subst hl
 have e:(s[(i:Int).toNat]'(by omega))=c:=by
  rw [← he]
  simp only [Int.toNat_natCast]
  rfl
 rw [e]
theorem text_size {s:ByteArray} {l:List UInt8} (hl:s.data.toList=l):s.size=l.length:=by rw [Lib.size_eq,hl]
theorem drewN_more {w wr:World} (h:∃ m,wr=w.drewN m) (n:Nat):∃ m,wr.drewN n=w.drewN m:=by
 obtain ⟨m,rfl⟩:=h
 exact ⟨m+n,World.drewN_drewN _ _ _⟩
theorem text_part (l:List UInt8) (a b:Nat):(⟨l.toArray⟩:ByteArray).extract a b=⟨((l.drop a).take (b - a)).toArray⟩:=by
 apply ByteArray.ext
 rw [ByteArray.data_extract]
 apply Array.toList_inj.1
 simp [List.extract_eq_take_drop]
end Go.Proofs.YtdijhifdjbnkfaaGreat.MM
set_option linter.unusedVariables false
namespace Go.Proofs.YtdijhifdjbnkfaaGreat.DT
open Go Go.RowKit Go.Proofs.YtdijhifdjbnkfaaGreat.MM Go.Proofs.YtdijhifdjbnkfaaGreat.DM
open Go.Proofs.YtdijhifdjbnkfaaGreat.EM (lessL less_bytes)
theorem alike_more {a b:List UInt8} {k:Nat} {x:UInt8} (h:∀ i,i<k→a[i]? = b[i]?) (hx:a[k]? = some x) (hy:b[k]? = some x):∀ i,i<k+1→a[i]? = b[i]? := fun i hi=>by
 by_cases e:i=k
 ·rw [e,hx,hy]
 ·exact h i (by omega)
end Go.Proofs.YtdijhifdjbnkfaaGreat.DT
set_option linter.unusedVariables false
namespace Go.Proofs.YtdijhifdjbnkfaaGreat.DT
open Go Go.RowKit Go.Proofs.YtdijhifdjbnkfaaGreat.MM Go.Proofs.YtdijhifdjbnkfaaGreat.DM
open Go.Proofs.YtdijhifdjbnkfaaGreat.EM (lessL less_bytes)
end Go.Proofs.YtdijhifdjbnkfaaGreat.DT
set_option linter.unusedVariables false
namespace Go.Proofs.YtdijhifdjbnkfaaGreat.DT
open Go Go.RowKit Go.Proofs.YtdijhifdjbnkfaaGreat.MM Go.Proofs.YtdijhifdjbnkfaaGreat.DM
set_option maxRecDepth 100000 in
set_option maxHeartbeats 2000000 in
theorem shared_any (a b:List UInt8) (w:World) (ha:a.length≤1000000000000) (hb:b.length≤1000000000000):Calls Tryz.prog 197 #[.string ⟨a.toArray⟩,.string ⟨b.toArray⟩] w fun e w'=>e=.returned (.int .i64 (sharedL a b:Int))∧∃ m,w'=w.drewN m:=by
 obtain ⟨s,hs⟩:∃ s:ByteArray,(⟨a.toArray⟩:ByteArray)=s:=⟨_,rfl⟩
 obtain ⟨t,ht⟩:∃ s:ByteArray,(⟨b.toArray⟩:ByteArray)=s:=⟨_,rfl⟩
 have hls:s.data.toList=a:=by rw [← hs]
 have hlt:t.data.toList=b:=by rw [← ht]
 rw [hs,ht]
 have HEND:=Lib.hid (fun k=>@sharedL_at a b k)
 obtain ⟨RES,hRES⟩:∃ RES,sharedL a b=RES:=⟨_,rfl⟩
 rw [hRES] at HEND ⊢
 have HS:=Lib.hid hls
 have HT:=Lib.hid hlt
 have HS1:=Lib.hid (text_size hls)
 have HT1:=Lib.hid (text_size hlt)
 clear hs ht hls hlt hRES
 go_enter Tryz.func197,Tryz.ntmps197
 go_wp2_with fail
 go_loopw [5] (fun iv wr=>∃ i:Nat,i≤a.length∧i≤b.length∧iv=.int .i64 i∧Hid (∀ j,j<i→a[j]? = b[j]?)∧Hid (∃ m,wr=w.drewN m)) (fun iv _=>a.length - (intOf iv).toNat)
 case atStart=>exact ⟨0,by omega,by omega,rfl,Lib.hid (fun j h=>by omega),Lib.hid ⟨0,rfl⟩⟩
 case round =>
  obtain ⟨i,hia,hib,rfl,HI,HB⟩:=hrel
  have e1:=HS1.out
  have e2:=HT1.out
  obtain ⟨M,hM⟩:∃ M,min s.size t.size=M:=⟨_,rfl⟩
  have m1:min (s.size:Int) (t.size:Int)=(M:Int):=by omega
  have m2:(if t.size<s.size then (t.size:Int) else (s.size:Int))=(M:Int):=by split<;>omega
  by_cases h0:i<M
  ·have h1:i<a.length:=by omega
   have h2:i<b.length:=by omega
   have q1:decide ((i:Int)<(M:Int))=true:=by rw [decide_eq_true_eq];omega
   have q2:decide (i<M)=true:=by rw [decide_eq_true_eq];omega
   have q5:i<s.size:=by omega
   have q6:i<t.size:=by omega
   obtain ⟨x8,hx8⟩:∃ c,a[i]? = some c:=⟨a[i],List.getElem?_eq_getElem h1⟩
   obtain ⟨y8,hy8⟩:∃ c,b[i]? = some c:=⟨b[i],List.getElem?_eq_getElem h2⟩
   have hix:=text_index HS.out hx8
   have hiy:=text_index HT.out hy8
   by_cases hxy:x8=y8
   ·subst hxy
    have HN:=Lib.hid (alike_more HI.out hx8 hy8)
    have HH:=Lib.hid (And.intro h1 h2)
    generalize x8.toNat=x at *
    clear HI e1 e2 h1 h2 hx8 hy8 hM h0
    go_wp2_with fail
    go_quiet (fail)
    go_wp2_with fail
    have hh:=HH.out
    go_roundw
    case rel=>exact ⟨i+1,by omega,by omega,by go_num,HN,Lib.hid (drewN_more HB.out _)⟩
    case measure=>simp [intOf];omega
   ·have he:=HEND.out i hia hib HI.out (fun _ _ e=>hxy (by rw [hx8,hy8] at e;exact Option.some.inj e))
    have q7:((x8.toNat:Int) == (y8.toNat:Int))=false:=by rw [beq_eq_false_iff_ne];exact fun e=>hxy (UInt8.toNat_inj.1 (by omega))
    subst he
    generalize x8.toNat=x at *
    generalize y8.toNat=y at *
    clear HI e1 e2 h1 h2 hxy hx8 hy8 hM h0
    go_wp2_with fail
    go_quiet (fail)
    go_wp2_with fail
    go_ret
    exact ⟨rfl,drewN_more HB.out _⟩
  ·have q1:decide ((i:Int)<(M:Int))=false:=by rw [decide_eq_false_iff_not];omega
   have q2:decide (i<M)=false:=by rw [decide_eq_false_iff_not];omega
   have he:=HEND.out i hia hib HI.out (fun h h'=>absurd h0 (by omega))
   subst he
   clear HI e1 e2 h0 hM
   go_wp2_with fail
   go_quiet (fail)
   go_wp2_with fail
   go_ret
   exact ⟨rfl,drewN_more HB.out _⟩
end Go.Proofs.YtdijhifdjbnkfaaGreat.DT
set_option linter.unusedVariables false
namespace Go.Proofs.YtdijhifdjbnkfaaGreat.SM
open Go Go.Proofs.YtdijhifdjbnkfaaGreat.VM
open Go.Proofs.YtdijhifdjbnkfaaGreat.EM (Fld Ev checkE FitE bytesE bytesE_len getE getE_put getE_back ok_lens sizeF sizeF_of_ok checkE_ok)
def blkS:Int→List Doc→List UInt8
 | _,[]=>[]
 | a,d::r=>(bytesL (d.1 - a - 1).toNat++bytesE d.2)++blkS d.1 r
def endA:Int→List Doc→Int
 | a,[]=>a
 | _,d::r=>endA d.1 r
theorem endA_snoc:∀ (a:Int) (c:List Doc) (d:Doc),endA a (c++[d])=d.1
 | _,[],_=>rfl
 | _,x::r,d=>endA_snoc x.1 r d
theorem blkS_snoc:∀ (a:Int) (c:List Doc) (d:Doc),blkS a (c++[d])=blkS a c++(bytesL (d.1 - endA a c - 1).toNat++bytesE d.2)
 | a,[],d=>by simp [blkS,endA]
 | a,x::r,d=>by
   rw [List.cons_append,blkS,blkS_snoc x.1 r d,blkS,endA,List.append_assoc (bytesL (x.1 - a - 1).toNat++bytesE x.2)]
theorem blkS_next (a:Int) {c:List Doc} {i:Nat} (h:i<c.length):blkS a (c.take (i+1))=blkS a (c.take i)++(bytesL (c[i].1 - endA a (c.take i) - 1).toNat++bytesE c[i].2):=by
 rw [List.take_succ_eq_append_getElem h,blkS_snoc]
theorem endA_next (a:Int) {c:List Doc} {i:Nat} (h:i<c.length):endA a (c.take (i+1))=c[i].1:=by
 rw [List.take_succ_eq_append_getElem h,endA_snoc]
theorem isR_app:∀ (a:Int) (c d:List Doc),isR a (c++d)=(isR a c&&isR (endA a c) d)
 | _,[],_=>by simp [isR,endA]
 | a,x::r,d=>by rw [List.cons_append,isR,isR_app x.1 r d,isR,endA,Bool.and_assoc]
theorem isR_take {a:Int} {c:List Doc} (h:isR a c=true) (i:Nat):isR a (c.take i)=true:=by
 have:=isR_app a (c.take i) (c.drop i)
 rw [List.take_append_drop,h] at this
 exact (Bool.and_eq_true _ _▸this.symm).1
theorem isR_drop {a:Int} {c:List Doc} (h:isR a c=true) (i:Nat):isR (endA a (c.take i)) (c.drop i)=true:=by
 have:=isR_app a (c.take i) (c.drop i)
 rw [List.take_append_drop,h] at this
 exact (Bool.and_eq_true _ _▸this.symm).2
theorem isR_ok {a:Int} {c:List Doc} (h:isR a c=true) {i:Nat} (hi:i<c.length):endA a (c.take i)<c[i].1∧c[i].1≤1099511627776∧checkE c[i].2=0:=by
 have:=isR_drop h i
 rw [isR_step hi,Bool.and_eq_true] at this
 exact okS_iff.1 this.1
theorem endA_ge:∀ {a:Int} {c:List Doc},isR a c=true→a≤endA a c
 | _,[],_=>Int.le_refl _
 | a,x::r,h=>by
   rw [isR,Bool.and_eq_true] at h
   have h1:=(okS_iff.1 h.1).1
   have h2:=endA_ge h.2
   rw [endA]
   omega
theorem endA_le:∀ {a:Int} {c:List Doc},isR a c=true→a≤1099511627776→endA a c≤1099511627776
 | _,[],_,h=>h
 | a,x::r,h,_=>by
   rw [isR,Bool.and_eq_true] at h
   rw [endA]
   exact endA_le h.2 (okS_iff.1 h.1).2.1
theorem oneD_len {x:Doc} (n:Nat) (h:checkE x.2=0):(bytesL n++bytesE x.2).length≤67000:=by
 obtain ⟨h4,h5⟩:=checkE_ok.1 h
 have b1:=bytesL_length n
 have b2:=bytesE_len x.2
 have b3:=sizeF_of_ok h5
 rw [List.length_append]
 omega
theorem blkS_len:∀ {a:Int} {c:List Doc},isR a c=true→(blkS a c).length≤67000*c.length
 | _,[],_=>by simp [blkS]
 | a,x::r,h=>by
   rw [isR,Bool.and_eq_true] at h
   have h1:=oneD_len (x:=x) (x.1 - a - 1).toNat (okS_iff.1 h.1).2.2
   have h2:=blkS_len h.2
   rw [blkS,List.length_append,List.length_cons]
   omega
def chunkS (l:List Doc) (k:Nat):List Doc:=(l.drop (16*k)).take 16
theorem chunkS_size (l:List Doc) (k:Nat):(chunkS l k).length≤16:=by unfold chunkS;rw [List.length_take];omega
theorem endA_last (l:List Doc):∀ {i:Nat},i≤l.length→endA 0 (l.take i)=lastS l i
 | 0,_=>rfl
 | i+1,h=>by rw [endA_next 0 (by omega),lastS_next (by omega)]
theorem take_drop_end (l:List Doc) (i m:Nat):endA (endA 0 (l.take i)) ((l.drop i).take m)=endA 0 (l.take (i+m)):=by
 have e:∀ (a:Int) (c d:List Doc),endA a (c++d)=endA (endA a c) d:=fun a c=>by
  induction c generalizing a with
  | nil=>intro d;rfl
  | cons x r ih=>intro d;exact ih x.1 d
 rw [← e,List.take_add]
theorem blk_range {l:List Doc} (i:Nat):∀ {m:Nat},i+m≤l.length→blkS (lastS l i) ((l.drop i).take m)=rangeB l i (i+m)
 | 0,_=>by rw [List.take_zero,blkS,Nat.add_zero,rangeB_self]
 | m+1,h=>by
   have hm:m<(l.drop i).length:=by rw [List.length_drop];omega
   rw [blkS_next _ hm,blk_range i (by omega),show i+(m+1)=(i+m)+1 by omega,rangeB_next (by omega),oneB_at (by omega),← endA_last l (by omega),take_drop_end,endA_last l (by omega),List.getElem_drop]
theorem chunk_take {l:List Doc} {k:Nat} (h:16*k≤l.length):chunkS l k=(l.drop (16*k)).take (endS l k - 16*k):=by
 unfold chunkS endS
 by_cases h2:16*k+16≤l.length
 ·rw [Nat.min_eq_left h2,show 16*k+16 - 16*k=16 by omega]
 ·rw [Nat.min_eq_right (by omega),List.take_of_length_le (by rw [List.length_drop];omega),List.take_of_length_le (by rw [List.length_drop];exact Nat.le_refl _)]
theorem chunk_len {l:List Doc} {k:Nat} (h:16*k≤l.length):(chunkS l k).length=endS l k - 16*k:=by
 rw [chunk_take h,List.length_take,List.length_drop]
 unfold endS
 omega
theorem chunk_bytes {l:List Doc} {k:Nat} (h:16*k≤l.length):blkS (lastS l (16*k)) (chunkS l k)=rangeB l (16*k) (endS l k):=by
 have h1:16*k≤endS l k:=by unfold endS;omega
 have h2:endS l k≤l.length:=by unfold endS;omega
 rw [chunk_take h,blk_range _ (by omega),show 16*k+(endS l k - 16*k)=endS l k by omega]
theorem chunk_end {l:List Doc} {k:Nat} (h:16*k≤l.length):endA (lastS l (16*k)) (chunkS l k)=lastS l (endS l k):=by
 have h1:16*k≤endS l k:=by unfold endS;omega
 have h2:endS l k≤l.length:=by unfold endS;omega
 rw [chunk_take h,← endA_last l h,take_drop_end,show 16*k+(endS l k - 16*k)=endS l k by omega,endA_last l h2]
theorem chunk_ok {l:List Doc} (h:isR 0 l=true) {k:Nat} (hk:16*k≤l.length):isR (lastS l (16*k)) (chunkS l k)=true:=by
 have:=isR_take (isR_drop h (16*k)) 16
 rw [endA_last l hk] at this
 exact this
theorem chunk_fit {l:List Doc} (h:FitS l) (k:Nat):FitS (chunkS l k):=fun d hd=>h d (List.mem_of_mem_drop (List.mem_of_mem_take hd))
end Go.Proofs.YtdijhifdjbnkfaaGreat.SM
set_option linter.unusedVariables false
namespace Go.Proofs.YtdijhifdjbnkfaaGreat.SG
open Go Go.RowKit Go.Proofs.YtdijhifdjbnkfaaGreat.MM
open Go.Proofs.YtdijhifdjbnkfaaGreat.EV (docC fldC doc_at)
open Go.Proofs.YtdijhifdjbnkfaaGreat.SM (Doc)
open Go.Proofs.YtdijhifdjbnkfaaGreat.GM (rangeG rangeK rangeK_next rangeK_all)
theorem rangeK_len (l:List Doc) (a b:Int) (n:Nat):(rangeK l a b n).length≤n:=by
 unfold rangeK
 rw [List.length_map]
 have:=List.length_filter_le (fun k=>decide (a≤(l.getD k SM.noDoc).2.1)&&decide ((l.getD k SM.noDoc).2.1≤b)) (List.range n)
 rw [List.length_range] at this
 exact this
end Go.Proofs.YtdijhifdjbnkfaaGreat.SG
set_option linter.unusedVariables false
namespace Go.Proofs.YtdijhifdjbnkfaaGreat.SG
open Go Go.RowKit Go.Proofs.YtdijhifdjbnkfaaGreat.MM
open Go.Proofs.YtdijhifdjbnkfaaGreat.EV (docC fldC doc_at)
open Go.Proofs.YtdijhifdjbnkfaaGreat.SM (Doc)
open Go.Proofs.YtdijhifdjbnkfaaGreat.GM (rangeG rangeK rangeK_next rangeK_all)
set_option maxRecDepth 100000 in
set_option maxHeartbeats 2000000 in
theorem within_any (v:Value) (l:List Doc) (a z:Int) (w:World) (hv:RAny docC w v l) (hn:l.length≤1000000000) :
  Calls Tryz.prog 69 #[v,.int .i64 a,.int .i64 z] w fun e w'=>(∃ u,e=.returned u∧IRow w' u (rangeG l a z))∧Below w.heap.size w w':=by
 obtain ⟨p,cap,rfl,hlc,hcm,_⟩:=hv.shape
 unfold maxLen at hcm
 have HV:=Lib.hid hv
 have HALL:=Lib.hid (rangeK_all l a z)
 have HNX:=Lib.hid (fun (n:Nat) (hn:n<l.length)=>rangeK_next (a:=a) (b:=z) hn)
 have HLN:=Lib.hid (rangeK_len l a z)
 have H0:Hid (OwnI w.heap.size w (.slice none 0 0) (rangeK l a z 0)):=Lib.hid (OwnI.nil_ _ _)
 clear hv
 go_enter Tryz.func69,Tryz.ntmps69
 go_wp2_with fail
 go_loopw [7,12] (fun u i wr=>∃ k:Nat,k≤l.length∧i=.int .i64 k∧Hid (OwnI w.heap.size wr u (rangeK l a z k))∧Hid (Below w.heap.size w wr)) (fun _ i _=>l.length - (intOf i).toNat)
 case atStart=>exact ⟨0,by omega,rfl,H0,Lib.hid (Below.refl _ _)⟩
 case round =>
  obtain ⟨k,hk,rfl,HO,HB⟩:=hrel
  clear H0
  by_cases hlt:k<l.length
  ·have t1:decide ((k:Int)<(l.length:Int))=true:=by simp;omega
   have t2:decide (k<l.length)=true:=decide_eq_true hlt
   have t3:(k:Int)<(l.length:Int):=by omega
   obtain ⟨b,off,x,rfl,hbl,_,hc1,hc2,hc3,hx⟩:=doc_at (HV.out.below HB.out) hlt
   have hnx:=HNX.out k hlt
   obtain ⟨⟨sq,⟨t,fs⟩⟩,hd⟩:∃ d,l[k]=d:=⟨_,rfl⟩
   rw [hd] at hc1 hc2 hx hnx
   dsimp only at hc1 hc2 hx hnx
   obtain ⟨pf,cf,rfl,_⟩:=hx.shape
   have hsz:=HB.out.size
   have hll:=HLN.out k
   obtain ⟨pu,cu,rfl,hu1,hu2⟩:=(OwnI.irow HO.out).shape
   have hb1:Below wr.heap.size wr (wr.alloc (.cells #[.int .i64 sq,.int .i64 t,.slice pf fs.length cf] 59)):=(Below.refl _ _).alloc (Nat.le_refl _) _
   have HO1:=Lib.hid (HO.out.keep hb1)
   have HB1:=Lib.hid (HB.out.trans (hb1.mono hsz))
   have HS1:Hid (w.heap.size≤(wr.alloc (.cells #[.int .i64 sq,.int .i64 t,.slice pf fs.length cf] 59)).heap.size):=Lib.hid HB1.out.size
   clear hx hd hb1 HO
   by_cases h1:a≤t
   ·have q2:decide (a≤t)=true:=decide_eq_true h1
    by_cases h2:t≤z
    ·have q3:decide (t≤z)=true:=decide_eq_true h2
     rw [if_pos ⟨h1,h2⟩] at hnx
     have HDS:=Lib.hid hnx
     clear h1 h2 hnx
     go_wp2_with (at_builtin;go_loud (refine wpList_append_int rfl _ _ rfl w.heap.size _ (rangeK l a z k) (wr.alloc (.cells #[.int .i64 sq,.int .i64 t,.slice pf fs.length cf] 59)) (k:Int) rfl rfl HO1.out (by rw [World.size_alloc];rfl) (by omega) HS1.out ?_))
     intro v4 w4 hown4 hb4
     rw [← HDS.out] at hown4
     have HO4:=Lib.hid hown4
     have HB4:=Lib.hid (HB1.out.trans hb4)
     clear hown4 hb4
     go_wp2_with fail
     go_roundw
     case rel=>exact ⟨k+1,by omega,by go_num,HO4,HB4⟩
     case measure=>simp [intOf];omega
    ·have q3:decide (t≤z)=false:=decide_eq_false h2
     rw [if_neg (fun h=>h2 h.2),List.append_nil] at hnx
     have HO4:Hid (OwnI w.heap.size (wr.alloc (.cells #[.int .i64 sq,.int .i64 t,.slice pf fs.length cf] 59)) (.slice pu (rangeK l a z k).length cu) (rangeK l a z (k+1))):=Lib.hid (by rw [hnx];exact HO1.out)
     clear h1 h2 hnx
     go_wp2_with fail
     go_roundw
     case rel=>exact ⟨k+1,by omega,by go_num,HO4,HB1⟩
     case measure=>simp [intOf];omega
   ·have q2:decide (a≤t)=false:=decide_eq_false h1
    rw [if_neg (fun h=>h1 h.1),List.append_nil] at hnx
    have HO4:Hid (OwnI w.heap.size (wr.alloc (.cells #[.int .i64 sq,.int .i64 t,.slice pf fs.length cf] 59)) (.slice pu (rangeK l a z k).length cu) (rangeK l a z (k+1))):=Lib.hid (by rw [hnx];exact HO1.out)
    clear h1 hnx
    go_wp2_with fail
    go_roundw
    case rel=>exact ⟨k+1,by omega,by go_num,HO4,HB1⟩
    case measure=>simp [intOf];omega
  ·obtain rfl:k=l.length:=by omega
   have t1:decide ((l.length:Int)<(l.length:Int))=false:=by simp
   have ho:=HO.out
   rw [HALL.out] at ho
   have HO2:=Lib.hid ho
   clear HO ho
   go_wp2_with fail
   go_ret
   exact ⟨⟨_,rfl,OwnI.irow HO2.out⟩,HB.out⟩
end Go.Proofs.YtdijhifdjbnkfaaGreat.SG
