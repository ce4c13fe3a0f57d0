import Derived.Test.YtdfibahafilklaaGreatDoorZC10
set_option maxRecDepth 100000
set_option maxHeartbeats 8000000
set_option linter.unusedVariables false
set_option linter.unusedSimpArgs false
namespace Go.Proofs.YtdfibahafilklaaGreatDoor.EV
open Go Go.RowKit MM EM
theorem size_any (z:Int) (v:Value) (fs:List Fld) (w:World) (hr:RAny fldC w v fs):Calls Tryz.prog 141 #[.agg #[.int .i64 z,v]] w (IntLeft (sizeW fs) w):=by
 obtain ⟨p,cap,rfl,hlc,hcm,_⟩:=hr.shape
 unfold maxLen at hcm
 have HB:=Lib.hid (box_below w z (.slice p fs.length cap))
 have HR:=Lib.hid hr
 have H0:Hid (sizeW (fs.take 0)=16):=Lib.hid (by simp [sizeW,sizeF,wrap64])
 clear hr
 go_enter Tryz.func141,Tryz.ntmps141
 go_wp2_with fail
 go_loopw [3,9] (fun sv iv wr=>∃ (i:Nat) (s:Int),i≤fs.length∧iv=.int .i64 i∧sv=.int .i64 s∧Hid (sizeW (fs.take i)=s)∧Hid (Below w.heap.size w wr)) (fun _ iv _=>fs.length - (intOf iv).toNat)
 case atStart=>exact ⟨0,16,by omega,rfl,rfl,H0,HB⟩
 case round =>
  obtain ⟨i,s,hi,rfl,rfl,HI,HB1⟩:=hrel
  clear H0 HB
  by_cases hlt:i<fs.length
  ·have q1:decide ((i:Int)<(fs.length:Int))=true:=by rw [decide_eq_true_eq];omega
   have q2:decide (i<fs.length)=true:=by rw [decide_eq_true_eq];omega
   obtain ⟨b,off,rfl,hbl,_,c1,c2⟩:=fld_at (HR.out.below HB1.out) hlt
   have hnext:=sizeW_next hlt
   rw [HI.out,← wrap_add2] at hnext
   generalize fs[i].1=n at *
   generalize fs[i].2=x at *
   have HN:=Lib.hid hnext
   have HLT:=Lib.hid hlt
   have hb3:Below wr.heap.size wr (wr.alloc (.cells #[.string ⟨n.toArray⟩,.string ⟨x.toArray⟩] 84)):=(Below.refl _ wr).alloc (Nat.le_refl _) _
   have HB2:=Lib.hid (HB1.out.trans (hb3.mono HB1.out.size))
   clear hnext HI hlt hb3
   go_wp2_with fail
   have hlt:=HLT.out
   go_roundw
   case rel=>exact ⟨i+1,_,by omega,by go_num,rfl,Lib.hid HN.out.symm,HB2⟩
   case measure=>simp [intOf];omega
  ·obtain rfl:i=fs.length:=by omega
   have q1:decide ((fs.length:Int)<(fs.length:Int))=false:=by simp
   have q2:decide (fs.length<fs.length)=false:=by simp
   have hn:=HI.out
   rw [List.take_length] at hn
   subst hn
   clear HI
   go_wp2_with fail
   go_ret
   exact ⟨rfl,HB1.out⟩
end Go.Proofs.YtdfibahafilklaaGreatDoor.EV
namespace Go.Proofs.YtdfibahafilklaaGreatDoor.EV
open Go Go.RowKit MM EM
end Go.Proofs.YtdfibahafilklaaGreatDoor.EV
namespace Go.Proofs.YtdfibahafilklaaGreatDoor.MM
open Go Go.RowKit
section
variable {α : Type} {C : Codec α}
variable (C)
def OwnX (e:TypeId) (B:Nat) (S:Nat→Prop) (w:World) (v:Value) (es:List α):Prop:=∃ raw,w.ownsRow B e C.size v es.length raw.flatten∧Mean C S w raw es
def SrcX (S:Nat→Prop) (w:World) (v:Value) (ds:List α):Prop :=
 ∃ (p:Option Addr) (cap:Nat) (raw:List (List Value)),v=.slice p ds.length cap∧ds.length≤cap∧(p=none→cap=0)∧Mean C S w raw ds∧(ds=[]∨∃ b off,p=some ⟨b,off,none⟩∧∀ j u,raw.flatten[j]? = some u→w.cell? ⟨b,off+j,none⟩=some u)
variable {C}
theorem ROn.src {S:Nat→Prop} {w:World} {v:Value} {ds:List α} (h:ROn C S w v ds):SrcX C S w v ds:=by
 obtain ⟨p,cap,raw,hv,h1,h2,h3,hm,hc⟩:=h
 refine ⟨p,cap,raw,hv,h1,h3,hm,?_⟩
 rcases hc with hc | ⟨b,off,hp,_,_,hc⟩
 ·exact .inl hc
 ·exact .inr ⟨b,off,hp,hc⟩
theorem src_lit {S:Nat→Prop} {w:World} {vs:List Value} {d:α} (e:TypeId) (h:C.on S w vs d):SrcX C S (w.alloc (.cells vs.toArray e)) (.slice (some ⟨w.heap.size,0,none⟩) 1 1) [d]:=by
 refine ⟨_,1,[vs],rfl,Nat.le_refl _,(fun h=>by cases h),⟨rfl,fun i hi hi' => ?_⟩,.inr ⟨w.heap.size,0,rfl,fun j u hj => ?_⟩⟩
 ·obtain rfl:i=0:=(by simpa using hi)
  exact C.keep h (kep_alloc _ _ _) fun _ _ h=>h
 ·rw [List.flatten_singleton] at hj
  have:=lit_cells w vs e j u hj
  rw [add_at] at this
  exact this
theorem OwnX.nil_ (e:TypeId) (B:Nat) (S:Nat→Prop) (w:World):OwnX C e B S w (.slice none 0 0) []:=⟨[],World.ownsRow_nil _ _ _ _,Mean.nil_ _ _⟩
theorem OwnX.cells {e:TypeId} {B:Nat} {S:Nat→Prop} {w:World} {v:Value} {es:List α} (h:OwnX C e B S w v es) {g:Nat} (hg:v.ownBlock=some g):B≤g∧g<w.heap.size∧∃ cur fr,w.heap[g]? = some (.cells cur e fr):=by
 obtain ⟨raw,h1,_⟩:=h
 exact ⟨(own_cells h1 hg).1,(World.ownsRow.lt h1 g hg).2,(own_cells h1 hg).2⟩
theorem OwnX.keep {e:TypeId} {B:Nat} {S T:Nat→Prop} {w w':World} {v:Value} {es:List α} (h:OwnX C e B S w v es) (hk:Kep T w w') (hS:∀ b,b<w.heap.size→S b→T b) (hg:∀ g,v.ownBlock=some g→T g):OwnX C e B S w' v es:=by
 obtain ⟨raw,h1,h2⟩:=h
 refine ⟨raw,own_row_kep h1 hk hg,h2.1,fun i hi hi' => ?_⟩
 exact C.keep (C.keep (h2.2 i hi hi') (Kep.refl _ _) (T:=fun b=>S b∧b<w.heap.size) fun b hb hs=>⟨hs,hb⟩) (hk.mono' (T:=fun b=>S b∧b<w.heap.size) fun b hb hs=>hS b hb hs.1) fun b hb hs=>hs.1
theorem OwnX.weak {e:TypeId} {B:Nat} {S T:Nat→Prop} {w:World} {v:Value} {es:List α} (h:OwnX C e B S w v es) (hT:∀ b,b<w.heap.size→S b→T b):OwnX C e B T w v es:=by
 obtain ⟨raw,h1,h2⟩:=h
 exact ⟨raw,h1,h2.keep (Kep.refl _ _) hT⟩
theorem OwnX.alloc {e:TypeId} {B:Nat} {S:Nat→Prop} {w:World} {v:Value} {es:List α} (h:OwnX C e B S w v es) (o:Obj):OwnX C e B S (w.alloc o) v es:=h.keep (kep_alloc (fun _=>True) w o) (fun _ _ _=>trivial) (fun _ _=>trivial)
theorem OwnX.ron {e:TypeId} {B:Nat} {S T:Nat→Prop} {w:World} {v:Value} {es:List α} (h:OwnX C e B S w v es) (h1:∀ g,v.ownBlock=some g→T g) (h2:∀ b,b<w.heap.size→S b→T b):ROn C T w v es:=by
 obtain ⟨raw,ho,hm⟩:=h
 rcases ho.2 with ⟨rfl,h0⟩ | ⟨g,cap,cur,rfl,hg,hh,hnc,hmx,hs,ht⟩
 ·have:es=[]:=List.eq_nil_of_length_eq_zero h0
  subst this
  exact ROn.nil_ _ _
 ·refine ⟨some ⟨g,0,none⟩,cap,raw,rfl,hnc,hmx,(fun h=>by cases h),hm.keep (Kep.refl _ _) h2,.inr ⟨g,0,rfl,(Array.getElem?_eq_some_iff.1 hh).1,h1 g rfl,fun j u hj => ?_⟩⟩
  have:=Lib.cells_of_row hh (es.length*C.size) j u (by rw [ht];exact hj)
  rw [add_at] at this
  exact this
theorem OwnX.any {e:TypeId} {B:Nat} {S:Nat→Prop} {w:World} {v:Value} {es:List α} (h:OwnX C e B S w v es):RAny C w v es:=h.ron (fun _ _=>trivial) (fun _ _ _=>trivial)
theorem wpList_append_x {P:Program} {T e:TypeId} {bytes:Nat} (E:Elem C P T e bytes) {S:Nat→Prop} {w:World} {ops:Array Oper} {rest:List Oper} {o:Oper} {a:Act} {Q:Exit→Act→World→Prop} (hgd:o.guard=none) (s x:Operand)
  (ho:o.op=.call { callee:=.builtin .append,args:=#[s,x],argTypes:=#[T,T] }) (B:Nat) (v:Value) (es:List α) (hs:a.eval s=v) (hown:OwnX C e B S w v es) (hS:∀ b,b<w.heap.size→S b→Apt e B w b)
  (src:Value) (ds:List α) (hx:a.eval x=src) (hr:SrcX C S w src ds) (hlen:es.length+ds.length≤maxLen) (hby:(es.length+ds.length)*bytes≤140737488355328) (hbase:B≤w.heap.size)
  (h:∀ v' w',OwnX C e B S w' v' (es++ds)→Below B w w'→Kep (fun k=>v.ownBlock≠some k) w w'→wpList P ops Q rest (a.put o.dst v') w'):wpList P ops Q (o::rest) a w:=by
 obtain ⟨p,cap,raw,rfl,h1,h3,hm,hc⟩:=hr
 obtain ⟨i,z,hi,hz,hsz,hbt,hzs⟩:=E.info
 cases p with
 | none =>
   have h0:=h3 rfl
   subst h0
   have hd:ds=[]:=List.eq_nil_of_length_eq_zero (by omega)
   subst hd
   obtain ⟨raw1,g1,g2⟩:=id hown
   refine wpList_append_own_none hgd s x T ho B e i C.size E.under hi v es.length _ hs g1 hx (h v w ?_ (Below.refl _ _) (Kep.refl _ _))
   rw [List.append_nil]
   exact hown
 | some ad =>
   refine wpList_plain hgd fun _ hK => ?_
   obtain ⟨raw1,g1,g2⟩:=hown
   have hlo:∀ k,v.ownBlock=some k→B≤k:=fun k hk=>(World.ownsRow.lt g1 k hk).1
   have hl:raw.flatten.length=ds.length*C.size:=by rw [flat_len hm.lens,hm.1]
   refine wp_append_own _ s x T ho B e i z C.size bytes E.under hi hz hsz hbt hzs C.pos v es.length _ hs g1 ad ds.length cap raw.flatten hx hl ?_ hm.ones hlen hby hbase (fun v' w' h4 hg _ => ?_)
   ·intro j u hj
    rcases hc with hc | ⟨b,off,he,hc⟩
    ·subst hc
     have:raw=[]:=List.eq_nil_of_length_eq_zero (by rw [hm.1];rfl)
     subst this
     simp at hj
    ·obtain rfl:ad=⟨b,off,none⟩:=Option.some.inj he
     rw [add_at]
     exact hc j u hj
   ·have hb:Below B w w':=(Below.refl B _).grown hg hbase hlo
    have hk:Kep (Apt e B w) w w':=kep_grown hg fun k hk hA=>apt_not_own g1 hA hk
    refine hK _ _ (h v' w' ⟨raw1++raw,?_,?_⟩ hb (kep_grown hg fun k hk hne=>hne hk))
    ·rw [List.length_append,List.flatten_append]
     exact h4
    ·have hm2:=g2.append hm
     refine ⟨hm2.1,fun i hi hi' => ?_⟩
     exact C.keep (C.keep (hm2.2 i hi hi') (Kep.refl _ _) (T:=fun b=>S b∧b<w.heap.size) fun b hb hs=>⟨hs,hb⟩) (hk.mono' (T:=fun b=>S b∧b<w.heap.size) fun b hb hs=>hS b hb hs.1) fun b hb hs=>hs.1
theorem wp_append_x1 {P:Program} {T e:TypeId} {bytes:Nat} (E:Elem C P T e bytes) {S:Nat→Prop} {w:World} {o:Oper} {a:Act} {K:Act→World→Prop} {Q:Exit→Act→World→Prop} (s x:Operand)
  (ho:o.op=.call { callee:=.builtin .append,args:=#[s,x],argTypes:=#[T,T] }) (B:Nat) (v:Value) (es:List α) (w0:World) (vs:List Value) (d:α) (hw:w=w0.alloc (.cells vs.toArray e)) (hs:a.eval s=v) (hown:OwnX C e B S w0 v es) (hS:∀ b,b<w0.heap.size→S b→Apt e B w0 b)
  (hd:C.on S w0 vs d) (hx:a.eval x=.slice (some ⟨w0.heap.size,0,none⟩) 1 1) (hlen:es.length+1≤maxLen) (hby:(es.length+1)*bytes≤140737488355328) (hbase:B≤w0.heap.size)
  (h:∀ v' w',OwnX C e B S w' v' (es++[d])→Below B w0 w'→Kep (fun k=>v.ownBlock≠some k) w w'→(∃ g cap,v'=.slice (some ⟨g,0,none⟩) (es.length+1) cap)→K (a.put o.dst v') w'):o.wp P a w K Q:=by
 subst hw
 have hb0:Below w0.heap.size w0 (w0.alloc (.cells vs.toArray e)):=(Below.refl _ _).alloc (Nat.le_refl _) _
 obtain ⟨i,z,hi,hz,hsz,hbt,hzs⟩:=E.info
 obtain ⟨raw,g1,g2⟩:=hown
 have h1:=own_keep (B:=0) g1 hb0
 have hlo:∀ k,v.ownBlock=some k→B≤k:=fun k hk=>(World.ownsRow.lt h1 k hk).1
 have hl:=C.len hd
 refine wp_append_own _ s x T ho B e i z C.size bytes E.under hi hz hsz hbt hzs C.pos v es.length _ hs h1 ⟨w0.heap.size,0,none⟩ 1 1 vs hx (by rw [hl,Nat.one_mul]) (lit_cells w0 vs e) (C.one hd) hlen hby (by simp;omega) (fun v' w' h3 hg _ => ?_)
 have hb:Below B (w0.alloc (.cells vs.toArray e)) w':=(Below.refl B _).grown hg (by simp;omega) hlo
 have hko:Kep (fun k=>v.ownBlock≠some k) w0 w':=(kep_below _ hb0).trans (kep_grown hg fun k hk hne=>hne hk)
 have hm0:Mean C (fun b=>S b∧b<w0.heap.size) w0 (raw++[vs]) (es++[d]):=(g2.append (Mean.single hd)).keep (Kep.refl _ _) fun b hb hs=>⟨hs,hb⟩
 have hm:Mean C (fun b=>S b∧b<w0.heap.size) w' (raw++[vs]) (es++[d]):=hm0.keep (hko.mono' (T:=fun b=>S b∧b<w0.heap.size) fun b hb hs he=>apt_not_own g1 (hS b hb hs.1) he) fun b hb hs=>hs
 refine h v' w' ⟨raw++[vs],?_,hm.keep (Kep.refl _ _) fun b _ hs=>hs.1⟩ ((hb0.mono hbase).trans hb) (kep_grown hg fun k hk hne=>hne hk) ?_
 ·rw [List.length_append,List.flatten_append,List.flatten_singleton]
  exact h3
 ·rcases h3.2 with ⟨_,h0⟩ | ⟨g,cap,cur,hv,_⟩
  ·omega
  ·exact ⟨g,cap,hv⟩
end
end Go.Proofs.YtdfibahafilklaaGreatDoor.MM
namespace Go.Proofs.YtdfibahafilklaaGreatDoor.EV
open Go Go.RowKit MM EM
theorem fldE:Elem fldC Tryz.prog 85 84 32:=⟨Tryz.underlying85,by
 have h:(Tryz.prog.info? 84).map (fun i=>(i.zero,i.size,i.bytes))=some (some (.agg #[.string ⟨#[]⟩,.string ⟨#[]⟩]),2,32):=by kernel_rfl
 obtain ⟨i,h1,h2,h3,h4⟩:=info_parts h
 exact ⟨i,_,h1,h2,h3,h4,rfl⟩⟩
end Go.Proofs.YtdfibahafilklaaGreatDoor.EV
namespace Go.Proofs.YtdfibahafilklaaGreatDoor.GB
open Go Go.RowKit MM
def Grown (w w':World) (v v':Value):Prop:=w.grownBy w' v.ownBlock∧∀ k,v'.ownBlock=some k→v.ownBlock=some k∨w.heap.size≤k
theorem Grown.trans {a b c:World} {u v x:Value} (h:Grown a b u v) (k:Grown b c v x):Grown a c u x:=by
 obtain ⟨h1,h2⟩:=h
 obtain ⟨k1,k2⟩:=k
 refine ⟨⟨k1.os.trans h1.os,k1.tape.trans h1.tape,k1.output.trans h1.output,Nat.le_trans h1.size k1.size,fun i hi hne => ?_⟩,fun i hi => ?_⟩
 ·rw [k1.block i (Nat.lt_of_lt_of_le hi h1.size) (fun e => ?_),h1.block i hi hne]
  rcases h2 i e.symm with h | h
  ·exact hne h.symm
  ·omega
 ·rcases k2 i hi with h | h
  ·exact h2 i h
  ·exact .inr (Nat.le_trans h1.size h)
theorem Grown.kep {w w':World} {v v':Value} (h:Grown w w' v v'):Kep (fun b=>v.ownBlock≠some b) w w':=kep_grown h.1 fun k hk hne=>hne hk
theorem Grown.of_below {a b c:World} {u v:Value} (h:Below a.heap.size a b) (k:Grown b c u v) (hu:∀ i,u.ownBlock=some i→i<a.heap.size):Grown a c u v :=
 ⟨⟨k.1.os.trans h.os,k.1.tape.trans h.tape,k.1.output.trans h.output,Nat.le_trans h.size k.1.size,fun i hi hne=>by rw [k.1.block i (Nat.lt_of_lt_of_le hi h.size) hne,h.block i hi]⟩,fun i hi=>by
   rcases k.2 i hi with e | e
   ·exact .inl e
   ·exact .inr (Nat.le_trans h.size e)⟩
theorem Grown.below {a b c:World} {u v:Value} (h:Grown a b u v) (k:Below b.heap.size b c):Grown a c u v :=
 ⟨⟨k.os.trans h.1.os,k.tape.trans h.1.tape,k.output.trans h.1.output,Nat.le_trans h.1.size k.size,fun i hi hne=>by rw [k.block i (Nat.lt_of_lt_of_le hi h.1.size),h.1.block i hi hne]⟩,h.2⟩
theorem own_lt {w:World} {v:Value} {l:List UInt8} {B:Nat} (h:OwnB B w v l):∀ i,v.ownBlock=some i→i<w.heap.size:=fun i hi=>(World.ownsRow.lt h i hi).2
theorem OwnB.zero {w:World} {v:Value} {l:List UInt8} {B:Nat} (h:OwnB B w v l):OwnB 0 w v l:=OwnB.weaken h (Nat.zero_le _)
theorem OwnB.from {w:World} {v:Value} {l:List UInt8} {B:Nat} (h:OwnB 0 w v l) (hB:∀ k,v.ownBlock=some k→B≤k):OwnB B w v l:=by
 refine ⟨h.1,?_⟩
 rcases h.2 with h0 | ⟨g,cap,cur,hv,hg,rest⟩
 ·exact .inl h0
 ·exact .inr ⟨g,cap,cur,hv,hB g (by rw [hv];rfl),rest⟩
def AppL (l:List UInt8) (v:Value) (w:World) (e:Ending) (w':World):Prop:=∃ v',e=.returned v'∧OwnB 0 w' v' l∧Grown w w' v v'
theorem wpList_append_grown {w:World} {ops:Array Oper} {rest:List Oper} {o:Oper} {a:Act} {Q:Exit→Act→World→Prop} (hgd:o.guard=none) (s x:Operand)
  (ho:o.op=.call { callee:=.builtin .append,args:=#[s,x],argTypes:=#[31,31] }) (v:Value) (l:List UInt8) (hs:a.eval s=v) (hown:OwnB 0 w v l)
  (src:Value) (m:List UInt8) (hx:a.eval x=src) (hr:BRow w src m) (hm:m≠[]) (hlen:l.length+m.length≤140737488355328)
  (h:∀ v' w',OwnB 0 w' v' (l++m)→Grown w w' v v'→wpList Tryz.prog ops Q rest (a.put o.dst v') w'):wpList Tryz.prog ops Q (o::rest) a w:=by
 obtain ⟨i0,hi,hz0,hz1,hz2⟩:=info_parts infoByte
 have h0:=List.length_pos_iff.2 hm
 obtain ⟨p,cap,rfl,_,_,h3,hc⟩:=hr
 rcases hc with hc | ⟨b,off,rfl,_,hc⟩
 ·have:=byteCells_len m;rw [hc] at this;simp at this;omega
 ·refine wpList_append_lies w hgd s x 31 ho 0 5 i0 (.int .u8 0) 1 1 Tryz.underlying31 hi hz0 hz1 hz2 rfl (by decide) v l.length (Lib.byteCells l) hs hown ⟨b,off,none⟩ (Lib.byteCells m).length cap (Lib.byteCells m) hx (by simp)
   (fun j u hu=>by rw [add_at];exact hc j u hu) (byteCells_one m) (by rw [byteCells_len];omega) (by rw [byteCells_len];unfold maxLen;omega) (by rw [byteCells_len];omega) (Nat.zero_le _) w.heap.size rfl ?_
  intro g cap' w' hown' hgrow hat _
  refine h _ w' ?_ ⟨hgrow,fun k hk => ?_⟩
  ·unfold OwnB
   rw [List.length_append,byteCells_append]
   rw [byteCells_len] at hown' ⊢
   exact hown'
  ·simp only [Value.ownBlock,Option.some.injEq] at hk
   subst hk
   rcases hat with h | h
   ·exact .inl h
   ·exact .inr (Nat.le_of_eq h.symm)
end Go.Proofs.YtdfibahafilklaaGreatDoor.GB
namespace Go.Proofs.YtdfibahafilklaaGreatDoor.MM
open Go Go.RowKit
def BOn (S:Nat→Prop) (w:World) (v:Value) (l:List UInt8):Prop:=ROn cU8 S w v l
theorem BOn.keep {S T:Nat→Prop} {w w':World} {v:Value} {l:List UInt8} (h:BOn S w v l) (hk:Kep S w w') (hT:∀ b,b<w.heap.size→S b→T b):BOn T w' v l:=ROn.keep h hk hT
theorem BOn.weak {S T:Nat→Prop} {w:World} {v:Value} {l:List UInt8} (h:BOn S w v l) (hT:∀ b,b<w.heap.size→S b→T b):BOn T w v l:=ROn.weak h hT
theorem BOn.below {S:Nat→Prop} {w w':World} {v:Value} {l:List UInt8} (h:BOn S w v l) (hb:Below w.heap.size w w'):BOn S w' v l:=BOn.keep h (kep_below S hb) fun _ _ h=>h
theorem BOn.brow {S:Nat→Prop} {w:World} {v:Value} {l:List UInt8} (h:BOn S w v l):BRow w v l:=ron_row (B:=w.heap.size) h fun b hb _=>hb
theorem BOn.of_own {B:Nat} {w:World} {v:Value} {l:List UInt8} (h:OwnB B w v l):BOn (fun b=>v.ownBlock=some b) w v l:=by
 have hr:ROn cU8 (fun b=>b<w.heap.size) w v l:=row_ron (Row.of_own h) (Nat.le_refl _)
 obtain ⟨p,cap,raw,rfl,h1,h2,h3,hm,h4⟩:=hr
 refine ⟨p,cap,raw,rfl,h1,h2,h3,⟨hm.1,fun i hi hi'=>hm.2 i hi hi'⟩,?_⟩
 rcases h4 with h | ⟨b,off,rfl,hlt,_,hc⟩
 ·exact .inl h
 ·exact .inr ⟨b,off,rfl,hlt,rfl,hc⟩
theorem BOn.shape {S:Nat→Prop} {w:World} {v:Value} {l:List UInt8} (h:BOn S w v l):∃ p cap,v=.slice p l.length cap∧l.length≤cap∧cap≤maxLen:=by
 obtain ⟨p,cap,hv,h1,h2,_⟩:=ROn.shape h
 exact ⟨p,cap,hv,h1,h2⟩
theorem BOn.take {S:Nat→Prop} {w:World} {p:Option Addr} {n cap:Nat} {l:List UInt8} (h:BOn S w (.slice p n cap) l) (k:Nat) (hk:k≤n):BOn S w (.slice p k cap) (l.take k):=ROn.take h k hk
end Go.Proofs.YtdfibahafilklaaGreatDoor.MM
namespace Go.Proofs.YtdfibahafilklaaGreatDoor.MM
open Go Go.RowKit
variable {α : Type} {C : Codec α}
end Go.Proofs.YtdfibahafilklaaGreatDoor.MM
