import Derived.Test.YtdijhifdjbnkfaaGreatZD2
set_option maxRecDepth 100000
set_option maxHeartbeats 8000000
set_option linter.unusedVariables false
set_option linter.unusedSimpArgs false
namespace Go.Proofs.YtdijhifdjbnkfaaGreat.MM
open Go.RowKit
theorem Zvq (l m:List UInt8):((⟨l.toArray⟩:ByteArray).toList == (⟨m.toArray⟩:ByteArray).toList)=decide (l=m):=by
 rw [Lib.toList_data,Lib.toList_data]
 by_cases h:l=m
 ·subst h;simp
 ·simp [h]
end Go.Proofs.YtdijhifdjbnkfaaGreat.MM
namespace Go.Proofs.YtdijhifdjbnkfaaGreat.MM
open Go.RowKit
theorem Zmb:(Tryz.prog.info? 9).map (fun i=>(i.zero,i.size,i.bytes))=some (some (.string ⟨#[]⟩),1,16):=by kernel_rfl
def strV (l:List UInt8):Value:=.string ⟨l.toArray⟩
def TIn (B:Nat) (w:World) (v:Value) (ss:List (List UInt8)):Prop:=Zbm B w v (ss.map strV)
def TRow (w:World) (v:Value) (ss:List (List UInt8)):Prop:=TIn w.heap.size w v ss
def OwnT (B:Nat) (w:World) (v:Value) (ss:List (List UInt8)):Prop:=w.ownsRow B 9 1 v ss.length (ss.map strV)
theorem OwnT.trow {B:Nat} {w:World} {v:Value} {ss:List (List UInt8)} (h:OwnT B w v ss):TRow w v ss:=Row.of_own h
theorem OwnT.keep {w w':World} {B:Nat} {v:Value} {ss:List (List UInt8)} (h:OwnT B w v ss) (hb:Below w.heap.size w w'):OwnT B w' v ss:=Zqe (B:=0) h hb
theorem OwnT.weaken {w:World} {B B':Nat} {v:Value} {ss:List (List UInt8)} (h:OwnT B w v ss) (hB:B'≤B):OwnT B' w v ss:=by
 refine ⟨h.1,?_⟩
 rcases h.2 with h0 | ⟨g,cap,cur,hv,hg,rest⟩
 ·exact .inl h0
 ·exact .inr ⟨g,cap,cur,hv,Nat.le_trans hB hg,rest⟩
theorem OwnT.nil_ (B:Nat) (w:World):OwnT B w (.slice none 0 0) []:=World.ownsRow_nil _ _ _ _
theorem OwnT.shape {w:World} {B:Nat} {v:Value} {ss:List (List UInt8)} (h:OwnT B w v ss):∃ p cap,v=.slice p ss.length cap∧ss.length≤cap∧cap≤maxLen:=by
 obtain ⟨p,cap,hv,h1,h2,_,_⟩:=h.trow
 rw [List.length_map] at hv h1
 exact ⟨p,cap,hv,h1,h2⟩
theorem TRow.below {w w':World} {v:Value} {ss:List (List UInt8)} (h:TRow w v ss) (hb:Below w.heap.size w w'):TRow w' v ss:=Row.below (B:=0) h hb
theorem TIn.below {B:Nat} {w w':World} {v:Value} {ss:List (List UInt8)} (h:TIn B w v ss) (hb:Below B w w'):TIn B w' v ss:=Zbm.below h hb
theorem TIn.mono {B B':Nat} {w:World} {v:Value} {ss:List (List UInt8)} (h:TIn B w v ss) (hB:B≤B'):TIn B' w v ss:=Zbm.mono h hB
theorem TRow.nil_ (w:World):TRow w (.slice none 0 0) []:=Row.nil_ w
theorem TIn.shape {B:Nat} {w:World} {v:Value} {ss:List (List UInt8)} (h:TIn B w v ss):∃ p cap,v=.slice p ss.length cap∧ss.length≤cap∧cap≤maxLen:=by
 obtain ⟨p,cap,hv,h1,h2,_,_⟩:=h
 rw [List.length_map] at hv h1
 exact ⟨p,cap,hv,h1,h2⟩
theorem TIn.at_ {B:Nat} {w:World} {p:Option Addr} {n cap:Nat} {ss:List (List UInt8)} (h:TIn B w (.slice p n cap) ss) {k:Nat} (hk:k<ss.length) :
  ∃ b off,p=some ⟨b,off,none⟩∧b<B∧w.cell? ⟨b,off+k,none⟩=some (.string ⟨(ss[k]).toArray⟩):=by
 obtain ⟨p',cap',hv,_,_,_,h⟩:=h
 simp only [Value.slice.injEq] at hv
 obtain ⟨rfl,_,_⟩:=hv
 rcases h with h | ⟨b,off,hp,hlt,hc⟩
 ·have:ss=[]:=List.map_eq_nil_iff.1 h
  subst this
  simp at hk
 ·exact ⟨b,off,hp,hlt,hc k _ (by simp [hk,strV])⟩
theorem Zzs {w:World} {ops:Array Oper} {rest:List Oper} {o:Oper} {a:Act} {Q:Exit→Act→World→Prop} (hgd:o.guard=none) (s x:Operand)
  (ho:o.op=.call { callee:=.builtin .append,args:=#[s,x],argTypes:=#[40,40] }) (B:Nat) (v:Value) (ss:List (List UInt8)) (w0:World) (z:List UInt8) (hw:w=w0.alloc (.cells #[.string ⟨z.toArray⟩] 9)) (hs:a.eval s=v) (hown:OwnT B w0 v ss)
  (hx:a.eval x=.slice (some ⟨w0.heap.size,0,none⟩) 1 1) (hlen:ss.length≤1000000000000) (hbase:B≤w0.heap.size)
  (h:∀ v' w',OwnT B w' v' (ss++[z])→Below B w0 w'→wpList Tryz.prog ops Q rest (a.put o.dst v') w'):wpList Tryz.prog ops Q (o::rest) a w:=by
 subst hw
 obtain ⟨i0,hi,hz0,hz1,hz2⟩:=info_parts Zmb
 have hlo:∀ k,v.ownBlock=some k→B≤k:=fun k hk=>(World.ownsRow.lt hown k hk).1
 refine wpList_append_own _ hgd s x 40 ho B 9 i0 (.string ⟨#[]⟩) 1 16 Tryz.underlying40 hi hz0 hz1 hz2 rfl (by decide) v ss.length _ hs (World.ownsRow.alloc hown _) ⟨w0.heap.size,0,none⟩ 1 1 [.string ⟨z.toArray⟩] hx rfl (Zeo _ _ _) (by intro u hu;simp at hu;subst hu;rfl)
  (by unfold maxLen;omega) (by omega) (by simp;omega) (fun v' w' h1 hg _=>h v' w' ?_ (ZcL (Below.refl B w0) hbase hlo hg))
 unfold OwnT
 rw [List.length_append,List.map_append]
 exact h1
end Go.Proofs.YtdijhifdjbnkfaaGreat.MM
namespace Go.Proofs.YtdijhifdjbnkfaaGreat.MM
open Go.RowKit
theorem OwnB.shape {B:Nat} {w:World} {v:Value} {l:List UInt8} (h:OwnB B w v l) (hl:l.length≠0):∃ g cap,v=.slice (some ⟨g,0,none⟩) l.length cap∧B≤g∧l.length≤cap∧cap≤maxLen:=by
 rcases h.2 with ⟨_,h0⟩ | ⟨g,cap,cur,hv,hb,_,hn,hm,_⟩
 ·exact absurd h0 hl
 ·exact ⟨g,cap,hv,hb,hn,hm⟩
theorem OwnB.free {B:Nat} {w:World} {g n cap:Nat} {l:List UInt8} (h:OwnB B w (.slice (some ⟨g,0,none⟩) n cap) l) (j:Nat):w.frozen? ⟨g,j,none⟩=false:=by
 rcases h.2 with ⟨hv,_⟩ | ⟨g',cap',cur,hv,hb,hh,_⟩
 ·cases hv
 ·simp only [Value.slice.injEq,Option.some.injEq,Addr.mk.injEq] at hv
  obtain ⟨⟨rfl,_⟩,_⟩:=hv
  exact frozen_of_row w g j cur _ hh
theorem OwnB.cell {B:Nat} {w:World} {g n cap j:Nat} {l:List UInt8} {c:UInt8} (h:OwnB B w (.slice (some ⟨g,0,none⟩) n cap) l) (hj:l[j]? = some c):w.cell? ⟨g,j,none⟩=some (.int .u8 (c.toNat:Int)):=by
 obtain ⟨hlt,he⟩:=List.getElem?_eq_some_iff.1 hj
 obtain ⟨b,off,hp,_,hc⟩:=h.brow.at_ hlt
 rcases h.2 with ⟨hv,_⟩ | ⟨g',cap',cur,hv,hb,hh,hn,hm,hs,ht⟩
 ·cases hv
 ·simp only [Value.slice.injEq,Option.some.injEq,Addr.mk.injEq] at hv hp
  obtain ⟨⟨rfl,_⟩,_⟩:=hv
  obtain ⟨rfl,rfl,_⟩:=hp
  rw [he,Nat.zero_add] at hc
  exact hc
theorem OwnB.set {B:Nat} {w:World} {g n cap j:Nat} {l:List UInt8} (h:OwnB B w (.slice (some ⟨g,0,none⟩) n cap) l) (c:UInt8) :
  OwnB B (w.setCell ⟨g,j,none⟩ (.int .u8 (c.toNat:Int))) (.slice (some ⟨g,0,none⟩) n cap) (l.set j c):=by
 refine ⟨by rw [ZdR];omega,?_⟩
 rcases h.2 with ⟨hv,_⟩ | ⟨g',cap',cur,hv,hb,hh,hn,hm,hs,ht⟩
 ·cases hv
 ·have hv':=hv
  simp only [Value.slice.injEq,Option.some.injEq,Addr.mk.injEq] at hv
  obtain ⟨⟨rfl,_⟩,hnn,rfl⟩:=hv
  refine .inr ⟨g,cap,cur.setIfInBounds j (.int .u8 (c.toNat:Int)),by rw [List.length_set,hnn],hb,heap_setCell_same w g j cur _ _ hh,by rw [List.length_set];exact hn,hm,by rw [Array.size_setIfInBounds];exact hs,?_⟩
  rw [List.length_set,Array.toList_setIfInBounds,List.take_set,ht]
  simp [Lib.byteCells,List.map_set]
end Go.Proofs.YtdijhifdjbnkfaaGreat.MM
namespace Go.Proofs.YtdijhifdjbnkfaaGreat.MM
open Go.RowKit
structure Kep (S:Nat→Prop) (w w':World):Prop where
 os:w'.os=w.os
 tape:w'.tape=w.tape
 output:w'.output=w.output
 size:w.heap.size≤w'.heap.size
 block:∀ k,k<w.heap.size→S k→w'.heap[k]? = w.heap[k]?
theorem Kep.refl (S:Nat→Prop) (w:World):Kep S w w:=⟨rfl,rfl,rfl,Nat.le_refl _,fun _ _ _=>rfl⟩
theorem Kep.trans {S:Nat→Prop} {a b c:World} (h:Kep S a b) (k:Kep S b c):Kep S a c :=
 ⟨k.os.trans h.os,k.tape.trans h.tape,k.output.trans h.output,Nat.le_trans h.size k.size,fun i hi hs=>(k.block i (Nat.lt_of_lt_of_le hi h.size) hs).trans (h.block i hi hs)⟩
theorem Kep.mono {S T:Nat→Prop} {a b:World} (h:Kep S a b) (hT:∀ k,T k→S k):Kep T a b:=⟨h.os,h.tape,h.output,h.size,fun k hk ht=>h.block k hk (hT k ht)⟩
theorem Kep.mono' {S T:Nat→Prop} {a b:World} (h:Kep S a b) (hT:∀ k,k<a.heap.size→T k→S k):Kep T a b:=⟨h.os,h.tape,h.output,h.size,fun k hk ht=>h.block k hk (hT k hk ht)⟩
theorem Kep.drew {S:Nat→Prop} {a b:World} (h:Kep S a b):Kep S a b.drew:=⟨h.os,h.tape,h.output,h.size,h.block⟩
theorem Kep.drewN {S:Nat→Prop} {a b:World} (h:Kep S a b) (n:Nat):Kep S a (b.drewN n):=⟨h.os,h.tape,h.output,h.size,h.block⟩
theorem ZmT {w w':World} (S:Nat→Prop) (h:Below w.heap.size w w'):Kep S w w':=⟨h.os,h.tape,h.output,h.size,fun k hk _=>h.block k hk⟩
theorem ZmS (S:Nat→Prop) (w:World) (o:Obj):Kep S w (w.alloc o):=ZmT S ((Below.refl _ _).alloc (Nat.le_refl _) o)
theorem ZmZ {S:Nat→Prop} {w:World} {g i:Nat} (hg:¬ S g) (u:Value):Kep S w (w.setCell ⟨g,i,none⟩ u) :=
 ⟨rfl,rfl,rfl,by simp,fun k _ hs=>Below.heap_setCell _ _ _ _ (fun e=>hg (by rw [← show k=g from e];exact hs))⟩
theorem ZmW {S:Nat→Prop} {w w':World} {row:Option Nat} (h:w.grownBy w' row) (hr:∀ k,row=some k→¬ S k):Kep S w w' :=
 ⟨h.os,h.tape,h.output,h.size,fun k hk hs=>h.block k hk (fun e=>hr k e.symm hs)⟩
theorem Kep.below {S:Nat→Prop} {w w':World} {B:Nat} (h:Kep S w w') (hB:B≤w.heap.size) (hS:∀ k,k<B→S k):Below B w w' :=
 ⟨h.os,h.tape,h.output,h.size,fun k hk=>h.block k (Nat.lt_of_lt_of_le hk hB) (hS k hk)⟩
theorem Kep.andThen {S T:Nat→Prop} {a b c:World} (h:Kep S a b) (k:Kep T b c) (hT:∀ i,i<a.heap.size→S i→T i):Kep S a c :=
 ⟨k.os.trans h.os,k.tape.trans h.tape,k.output.trans h.output,Nat.le_trans h.size k.size,fun i hi hs=>(k.block i (Nat.lt_of_lt_of_le hi h.size) (hT i hi hs)).trans (h.block i hi hs)⟩
theorem ZmV (S:Nat→Prop) (w:World):Kep S w w.drew:=(Kep.refl S w).drew
theorem Kep.cell {S:Nat→Prop} {w w':World} (h:Kep S w w') {b:Nat} (hb:b<w.heap.size) (hS:S b) (i:Nat):w'.cell? ⟨b,i,none⟩=w.cell? ⟨b,i,none⟩:=World.cell?_of_block (a:=⟨b,i,none⟩) (h.block b hb hS)
end Go.Proofs.YtdijhifdjbnkfaaGreat.MM
namespace Go.Proofs.YtdijhifdjbnkfaaGreat.SG
open Go Go.RowKit MM
def Zah (b:Bool) (w:World) (e:Ending) (w':World):Prop:=e=.returned (.bool b)∧w=w'
theorem ZhT (u v:Value) (xs ys:List UInt8) (w:World) (hu:BRow w u xs) (hv:BRow w v ys):Calls Tryz.prog 50 #[u,v] w (Zah (decide (xs=ys)) w):=by
 have h1:=BIn.conv hu
 have h2:=BIn.conv hv
 have hsl:=Zvq xs ys
 obtain ⟨p1,c1,rfl,_⟩:=hu.shape
 obtain ⟨p2,c2,rfl,_⟩:=hv.shape
 clear hu hv
 cases hd:decide (xs=ys) with
 | true =>
   rw [hd] at hsl
   have r3:(xs == ys)=true:=by rw [beq_iff_eq];exact of_decide_eq_true hd
   clear hd
   go_enter Tryz.func50,Tryz.ntmps50
   go_wp2_with fail
   go_ret
   exact ⟨rfl,rfl⟩
 | false =>
   rw [hd] at hsl
   have r3:(xs == ys)=false:=by rw [beq_eq_false_iff_ne];exact of_decide_eq_false hd
   clear hd
   go_enter Tryz.func50,Tryz.ntmps50
   go_wp2_with fail
   go_ret
   exact ⟨rfl,rfl⟩
theorem Zk6 (u v:Value) (xs ys:List UInt8) (w:World) (hu:BRow w u xs) (hv:BRow w v ys):Calls Tryz.prog 152 #[u,v] w (Zah (decide (xs.take ys.length=ys)) w):=by
 obtain ⟨p1,c1,rfl,hl1,hm1⟩:=hu.shape
 obtain ⟨p2,c2,rfl,_⟩:=hv.shape
 unfold maxLen at hm1
 by_cases h:ys.length≤xs.length
 ·have hE:=ZhT _ _ _ ys w (BIn.take hu ys.length h) hv
  have q1:decide ((xs.length:Int)≥(ys.length:Int))=true:=by rw [decide_eq_true_eq];omega
  have q2:decide ((ys.length:Int)≤(xs.length:Int))=true:=by rw [decide_eq_true_eq];omega
  have q3:decide (ys.length≤xs.length)=true:=decide_eq_true h
  have i1:(ys.length:Int)≤(c1:Int):=by omega
  have HE:=Lib.hid hE
  obtain ⟨B,hB⟩:∃ B,decide (xs.take ys.length=ys)=B:=⟨_,rfl⟩
  rw [hB] at HE ⊢
  clear hu hv hE h hB
  go_enter Tryz.func152,Tryz.ntmps152
  go_wp2_with fail
  refine HE.out.mono ?_
  rintro e w1 ⟨rfl,rfl⟩
  go_wp2_with fail
  go_ret
  exact ⟨rfl,rfl⟩
 ·have e:decide (xs.take ys.length=ys)=false:=by
   rw [decide_eq_false_iff_not]
   intro h1
   have:=congrArg List.length h1
   rw [List.length_take] at this
   omega
  have q1:decide ((xs.length:Int)≥(ys.length:Int))=false:=by rw [decide_eq_false_iff_not];omega
  have q2:decide ((ys.length:Int)≤(xs.length:Int))=false:=by rw [decide_eq_false_iff_not];omega
  have q3:decide (ys.length≤xs.length)=false:=decide_eq_false h
  rw [e]
  clear hu hv h e
  go_enter Tryz.func152,Tryz.ntmps152
  go_wp2_with fail
  go_ret
  exact ⟨rfl,rfl⟩
def Zat (B:Nat) (xs ys:List UInt8) (w:World) (e:Ending) (w':World):Prop:=∃ u,e=.returned (.tuple #[u,.bool (decide (xs.take ys.length=ys))])∧(xs.take ys.length=ys→BIn B w' u (xs.drop ys.length))∧u.oneCell'=true∧w=w'
theorem ZfY (B:Nat) (u v:Value) (xs ys:List UInt8) (w:World) (hu:BIn B w u xs) (hB:B≤w.heap.size) (hv:BRow w v ys):Calls Tryz.prog 99 #[u,v] w (Zat B xs ys w):=by
 have HP:=Zk6 u v xs ys w (hu.row hB) hv
 obtain ⟨p1,c1,rfl,hl1,hm1⟩:=hu.shape
 obtain ⟨p2,c2,rfl,_⟩:=hv.shape
 unfold maxLen at hm1
 unfold Zat
 by_cases h:xs.take ys.length=ys
 ·rw [decide_eq_true h] at HP ⊢
  have hl:ys.length≤xs.length:=by
   have:=congrArg List.length h
   rw [List.length_take] at this
   omega
  have HH:=Lib.hid HP
  have HD:=Lib.hid (BIn.drop3 hu ys.length hl)
  have i1:(ys.length:Int)≤(xs.length:Int):=by omega
  have i2:(xs.length:Int)≤(c1:Int):=by omega
  clear hu hv h HP
  by_cases hc:c1=ys.length
  ·subst hc
   go_enter Tryz.func99,Tryz.ntmps99
   go_wp2_with fail
   refine HH.out.mono ?_
   rintro e w1 ⟨rfl,rfl⟩
   go_wp2_with fail
   go_ret2
   exact ⟨_,rfl,fun _=>(by have h:=HD.out.1 trivial;rw [show xs.length - ys.length=0 by omega] at h;exact h),rfl,rfl⟩
  ·go_enter Tryz.func99,Tryz.ntmps99
   go_wp2_with fail
   refine HH.out.mono ?_
   rintro e w1 ⟨rfl,rfl⟩
   go_wp2_with fail
   go_ret2
   exact ⟨_,rfl,fun _=>HD.out.2 hc,rfl,rfl⟩
 ·rw [decide_eq_false h] at HP ⊢
  have HH:=Lib.hid HP
  have HN:=Lib.hid h
  clear hu hv h HP
  go_enter Tryz.func99,Tryz.ntmps99
  go_wp2_with fail
  refine HH.out.mono ?_
  rintro e w1 ⟨rfl,rfl⟩
  go_wp2_with fail
  go_ret2
  exact ⟨_,rfl,fun h=>absurd h HN.out,rfl,rfl⟩
end Go.Proofs.YtdijhifdjbnkfaaGreat.SG
namespace Go.Proofs.YtdijhifdjbnkfaaGreat.CR
open Go.RowKit MM CM
theorem ZnR {m:Nat} (hm:m<4294967296):bits .and .u32 (m:Int) 1=((m%2:Nat):Int):=by
 have h:=u32_and_nat m 1 hm (by omega)
 rw [nat_mask1] at h
 exact h
theorem Zwk {m:Nat} (hm:m<4294967296):bits .xor .u32 ((m:Int) / 2) ((m:Int)%2*3988292384)=((CM.step m:Nat):Int):=by
 unfold CM.step
 by_cases h:m%2=1
 ·rw [if_pos h,show (m:Int)%2*3988292384=((3988292384:Nat):Int) by omega,show (m:Int) / 2=((m / 2:Nat):Int) by omega]
  exact u32_xor_nat _ _ (by omega) (by omega)
 ·rw [if_neg h,show (m:Int)%2*3988292384=((0:Nat):Int) by omega,show (m:Int) / 2=((m / 2:Nat):Int) by omega,u32_xor_nat _ _ (by omega) (by omega),Nat.xor_zero]
theorem Zwy {k m r:Nat} (hk:k<8) (h:Zwp (8 - k) m=r):Zwp (8 - (k+1)) (CM.step m)=r:=by
 rw [show 8 - k=(8 - (k+1))+1 by omega] at h
 exact h
theorem Zyb (n:Nat) (w:World) (hn:n<4294967296):Calls Tryz.prog 266 #[.int .u32 n] w fun e w'=>e=.returned (.int .u32 (Zwp 8 n))∧w=w':=by
 obtain ⟨r,hr⟩:∃ r,Zwp 8 n=r:=⟨_,rfl⟩
 rw [hr]
 have HR:Hid (Zwp (8 - 0) n=r):=Lib.hid hr
 clear hr
 go_enter Tryz.func266,Tryz.ntmps266
 go_wp2_with fail
 go_loop [0,4] (fun s i=>∃ k m:Nat,k≤8∧i=.int .i64 k∧s=.int .u32 m∧m<4294967296∧Hid (Zwp (8 - k) m=r)) (fun _ i=>8 - (intOf i).toNat)
 case atStart=>exact ⟨0,n,by omega,rfl,rfl,hn,HR⟩
 case round =>
  obtain ⟨k,m,hk,rfl,rfl,hm,H⟩:=hrel
  clear HR
  have hl:=ZnR hm
  have hx:=Zwk hm
  have hs:=Zwm hm
  go_wp2_with fail
  ·have hlt:(k:Int)<8:=by assumption
   go_round
   case rel=>exact ⟨k+1,CM.step m,by omega,by go_num,rfl,hs,Lib.hid (Zwy (by omega) H.out)⟩
   case measure=>simp [intOf];omega
  ·have hge:(8:Int)≤k:=by assumption
   obtain rfl:k=8:=by omega
   have h:m=r:=H.out
   subst h
   go_ret
   exact ⟨rfl,rfl⟩
end Go.Proofs.YtdijhifdjbnkfaaGreat.CR
namespace Go.Proofs.YtdijhifdjbnkfaaGreat.CR
open Go.RowKit MM CM
theorem ZzP:∃ Z:Array Value,Z.size=256∧Z[0]? = some (.int .u32 0)∧∀ W,Sem.run Tryz.prog (zeroValue 308) W=.ok (.agg Z) W :=
 ⟨Array.replicate 256 (.int .u32 0),by simp,by simp,fun W=>by kernel_rfl⟩
def Tab (B n:Nat) (w:World):Prop:=∃ cur:Array Value,w.heap[B]? = some (.cells cur 308 (0,0))∧cur.size=256∧∀ k,k<n→cur[k]? = some (.int .u32 (Zwp 8 k))
theorem Tab.cell {B n:Nat} {w:World} (h:Tab B n w) {k:Nat} (hk:k<n):w.cell? ⟨B,k,none⟩=some (.int .u32 (Zwp 8 k)):=by
 obtain ⟨cur,hb,_,hc⟩:=h
 rw [cell_of_row w B k cur _ _ hb]
 exact hc k hk
theorem Tab.there {B n:Nat} {w:World} (h:Tab B n w) {k:Nat} (hk:k<256):∃ v,w.cell? ⟨B,k,none⟩=some v:=by
 obtain ⟨cur,hb,hs,_⟩:=h
 exact ⟨cur[k],by rw [cell_of_row w B k cur _ _ hb];simp [hs,hk]⟩
theorem Tab.free {B n:Nat} {w:World} (h:Tab B n w) (k:Nat):w.frozen? ⟨B,k,none⟩=false:=by
 obtain ⟨cur,hb,_,_⟩:=h
 exact frozen_of_row w B k cur _ hb
theorem Tab.put {B n:Nat} {w:World} (h:Tab B n w) (hn:n<256):Tab B (n+1) (w.setCell ⟨B,n,none⟩ (.int .u32 (Zwp 8 n))):=by
 obtain ⟨cur,hb,hs,hc⟩:=h
 refine ⟨_,heap_setCell_same w B n cur _ _ hb,by simp [hs],fun k hk => ?_⟩
 by_cases hkn:k=n
 ·subst hkn
  simp [hs,hn]
 ·rw [Array.getElem?_setIfInBounds_ne (by omega)]
  exact hc k (by omega)
theorem Tab.mono {B n m:Nat} {w:World} (h:Tab B n w) (hm:m≤n):Tab B m w:=by
 obtain ⟨cur,hb,hs,hc⟩:=h
 exact ⟨cur,hb,hs,fun k hk=>hc k (by omega)⟩
def tab:Array Value:=((List.range 256).map (fun k=>Value.int .u32 (Zwp 8 k:Nat))).toArray
theorem ZwU:tab.size=256:=by simp [tab]
theorem ZwS {k:Nat} (hk:k<256):tab[k]? = some (.int .u32 (Zwp 8 k:Nat)):=by simp [tab,hk]
theorem Tab.all {B:Nat} {w:World} (h:Tab B 256 w):w.heap[B]? = some (.cells tab 308 (0,0)):=by
 obtain ⟨cur,hb,hs,hc⟩:=h
 have:cur=tab:=by
  apply Array.ext_getElem?
  intro k
  by_cases hk:k<256
  ·rw [hc k hk,ZwS hk]
  ·rw [Array.getElem?_eq_none (by omega),Array.getElem?_eq_none (by rw [ZwU];omega)]
 rw [← this]
 exact hb
theorem ZlY:(Tryz.prog.info? 308).map (·.size)=some 256:=by kernel_rfl
theorem ZrL:∀ j:Fin 8,∀ k:Fin 128,k.val<2^j.val→2^j.val ^^^ k.val=2^j.val+k.val:=by decide +kernel
theorem ZrK:∀ j,j<8→∀ k,k<2^j→2^j ^^^ k=2^j+k:=by
 intro j hj k hk
 have h1:2^j≤2^7:=Nat.pow_le_pow_right (by omega) (by omega)
 exact ZrL ⟨j,hj⟩ ⟨k,by omega⟩ hk
theorem ZwT:tab.all (·.oneCell')=true:=by
 rw [Array.all_eq_true]
 intro k hk
 rw [ZwU] at hk
 have h:=ZwS hk
 rw [Array.getElem?_eq_some_iff] at h
 obtain ⟨_,h⟩:=h
 rw [h]
 rfl
theorem ZcP {B g:Nat} {a w:World} (cs:Array Value) (h:Below B a w) (hg:B≤g):Below B a (w.setRow g cs) :=
 ⟨h.os,h.tape,h.output,by rw [setRow_size];exact h.size,fun i hi=>by rw [setRow_other w g i cs (by omega)];exact h.block i hi⟩
theorem ZrI {j k:Nat} (hj:j<8) (hk:k<2^j):bits .xor .u32 ((Zwp 8 (2^j):Nat):Int) ((Zwp 8 k:Nat):Int)=((Zwp 8 (2^j+k):Nat):Int):=by
 have h1:2^j≤2^7:=Nat.pow_le_pow_right (by omega) (by omega)
 rw [u32_xor_nat _ _ (Zwx 8 (by omega)) (Zwx 8 (by omega)),← ZwA,ZrK j hj k hk]
theorem ZwR (w:World):Calls Tryz.prog 245 #[] w fun e w'=>e=.returned (.agg tab)∧Below w.heap.size w w':=by
 obtain ⟨T,hT⟩:∃ T,tab=T:=⟨_,rfl⟩
 have HTs:Hid (T.size=256):=Lib.hid (hT▸ZwU)
 have HT1:Hid (T.all (·.oneCell')=true):=Lib.hid (hT▸ZwT)
 have HTab:Hid (∀ W,Tab w.heap.size 256 W→W.heap[w.heap.size]? = some (.cells T 308 (0,0))):=Lib.hid (fun W h=>hT▸h.all)
 rw [hT]
 clear hT
 obtain ⟨Z,hZ,hZ0,hz⟩:=ZzP
 have ht0:Tab w.heap.size 1 (w.alloc (.cells Z 308)):=⟨Z,heap_alloc_new _ _,hZ,fun k hk=>by obtain rfl:k=0:=(by omega);rw [hZ0,Zwz];rfl⟩
 have hb0:Below w.heap.size w (w.alloc (.cells Z 308)):=(Below.refl _ _).alloc (Nat.le_refl _) _
 have HT0:=Lib.hid ht0
 have HB0:=Lib.hid hb0
 clear ht0 hb0 hZ hZ0
 go_enter Tryz.func245,Tryz.ntmps245
 go_wp2_with fail
 go_loopw [1] (fun h wr=>∃ j H:Nat,j≤8∧Hid (2^j=H)∧h=.int .i64 H∧0<H∧H≤256∧Hid (Tab w.heap.size H wr)∧Hid (Below w.heap.size w wr)) (fun h _=>256 - (intOf h).toNat)
 case atStart=>exact ⟨0,1,by omega,Lib.hid rfl,rfl,by omega,by omega,HT0,HB0⟩
 case round =>
  obtain ⟨j,H,hj,HJ,rfl,h0,h256,HT,HB⟩:=hrel
  clear HT0 HB0 hz
  by_cases hlt:H<256
  ·have hu:H<4294967296:=by omega
   go_wp2_with fail
   refine (Zyb H _ hu).mono ?_
   rintro e w1 ⟨rfl,rfl⟩
   have hs0:=Zwx 8 hu
   go_wp2_with fail
   go_loopw [12] (fun i wr2=>∃ k:Nat,k≤H∧i=.int .i64 k∧Hid (Tab w.heap.size (H+k) wr2)∧Hid (Below w.heap.size w wr2)) (fun i _=>H - (intOf i).toNat)
   case atStart=>exact ⟨0,by omega,rfl,HT,HB⟩
   case round =>
    obtain ⟨k,hk,rfl,HT2,HB2⟩:=hrel
    clear HT HB
    by_cases hkH:k<H
    ·have hcell:=HT2.out.cell (k:=k) (by omega)
     have hfz:=HT2.out.free (H+k)
     have hp:H=2^j:=HJ.out.symm
     have hj8:j<8:=by
      rcases Nat.lt_or_ge j 8 with h | h
      ·exact h
      ·have:j=8:=by omega
       rw [this] at hp
       omega
     have hxor:=ZrI (j:=j) (k:=k) hj8 (hp▸hkH)
     have hp1:2^(j+1)=H*2:=by rw [Nat.pow_succ,← hp]
     have hp2:2^(j+1)≤2^8:=Nat.pow_le_pow_right (by omega) (by omega)
     have hH:H*2≤256:=by omega
     clear hp1 hp2
     obtain ⟨old,hold⟩:=HT2.out.there (k:=H+k) (by omega)
     have hb1:(0:Int)≤(H:Int)+k:=by omega
     have hb2:(H:Int)+k<256:=by omega
     rw [← hp] at hxor
     have HT3:=Lib.hid (HT2.out.put (by omega))
     have HB3:=Lib.hid (HB2.out.setCell (p:=⟨w.heap.size,H+k,none⟩) (Nat.le_refl _) (.int .u32 (Zwp 8 (H+k):Nat)))
     clear hp hj8 HT2 HB2
     go_wp2_with fail
     go_roundw
     case rel=>exact ⟨k+1,by omega,by go_num,HT3,HB3⟩
     case measure=>simp [intOf];omega
    ·obtain rfl:k=H:=by omega
     go_wp2_with fail
     go_roundw
     have hp:2^j=k:=HJ.out
     have hj8:j<8:=by
      rcases Nat.lt_or_ge j 8 with h | h
      ·exact h
      ·have:j=8:=by omega
       rw [this] at hp
       omega
     have hp1:2^(j+1)=k*2:=by rw [Nat.pow_succ,hp]
     have hp2:2^(j+1)≤2^8:=Nat.pow_le_pow_right (by omega) (by omega)
     case rel=>exact ⟨j+1,k*2,by omega,Lib.hid hp1,by go_num,by omega,by omega,Lib.hid (HT2.out.mono (by omega)),HB2⟩
     case measure=>simp [intOf];omega
  ·obtain rfl:H=256:=by omega
   have hg:=HTab.out _ HT.out
   have hs:=HTs.out
   have hi:(Tryz.prog.info? 308).map (·.size)=some T.size:=by rw [hs];exact ZlY
   have hg2:=setRow_heap wr w.heap.size T T _ _ hg
   have HG2:=Lib.hid hg2
   have HB3:=Lib.hid (ZcP T HB.out (Nat.le_refl _))
   clear hg2 hs
   go_wp2_with (first | refine wpList_load_row rfl 308 (.tmp 0) rfl w.heap.size rfl 308 T (0,0) (.array 256 183) hg Tryz.underlying308 rfl hi ?_ | refine wpList_store_row rfl 308 (.tmp 0) (.tmp 25) rfl w.heap.size T rfl rfl 308 T hg hi rfl HT1.out ?_)
   refine bodyPost_ret (v:=.agg T) (results_cell_row rfl _ _ w.heap.size 308 T (0,0) (.array 256 183) rfl HG2.out Tryz.underlying308 rfl hi) rfl ⟨rfl,HB3.out⟩
end Go.Proofs.YtdijhifdjbnkfaaGreat.CR
namespace Go.Proofs.YtdijhifdjbnkfaaGreat.CR
open Go.RowKit MM CM
def PRow (w:World) (v:Value) (ls:List (List UInt8)):Prop:=∃ xs,Row w v xs∧xs.length=ls.length∧∀ i (h:i<ls.length),∃ x,xs[i]? = some x∧BRow w x ls[i]
theorem PRow.below {w w':World} {v:Value} {ls:List (List UInt8)} (h:PRow w v ls) (hb:Below w.heap.size w w'):PRow w' v ls:=by
 obtain ⟨xs,hr,hl,hx⟩:=h
 refine ⟨xs,Row.below (B:=0) hr hb,hl,fun i hi => ?_⟩
 obtain ⟨x,h1,h2⟩:=hx i hi
 exact ⟨x,h1,h2.below hb⟩
theorem PRow.shape {w:World} {v:Value} {ls:List (List UInt8)} (h:PRow w v ls):∃ p cap,v=.slice p ls.length cap∧ls.length≤cap∧cap≤maxLen:=by
 obtain ⟨xs,⟨p,cap,hv,h1,h2,_,_⟩,hl,_⟩:=h
 rw [hl] at hv h1
 exact ⟨p,cap,hv,h1,h2⟩
theorem PRow.at_ {w:World} {p:Option Addr} {n cap:Nat} {ls:List (List UInt8)} (h:PRow w (.slice p n cap) ls) {k:Nat} (hk:k<ls.length) :
  ∃ b off x,p=some ⟨b,off,none⟩∧w.cell? ⟨b,off+k,none⟩=some x∧BRow w x ls[k]:=by
 obtain ⟨xs,⟨p',cap',hv,_,_,_,h⟩,hl,hx⟩:=h
 simp only [Value.slice.injEq] at hv
 obtain ⟨rfl,_,_⟩:=hv
 obtain ⟨x,h1,h2⟩:=hx k hk
 rcases h with h | ⟨b,off,hp,hlt,hc⟩
 ·rw [h] at h1;simp at h1
 ·exact ⟨b,off,x,hp,hc k _ h1,h2⟩
theorem ZrO {w:World} (xs:List Value) (ls:List (List UInt8)) (hl:xs.length=ls.length) (hm:xs.length≤maxLen) (h:∀ i (h:i<ls.length),∃ x,xs[i]? = some x∧BRow w x ls[i]) :
  PRow (w.alloc (.cells xs.toArray 23)) (.slice (some ⟨w.heap.size,0,none⟩) xs.length xs.length) ls:=by
 have hb:Below w.heap.size w (w.alloc (.cells xs.toArray 23)):=(Below.refl _ _).alloc (Nat.le_refl _) _
 refine ⟨xs,⟨some ⟨w.heap.size,0,none⟩,xs.length,rfl,Nat.le_refl _,hm,(fun h=>by cases h),.inr ⟨w.heap.size,0,rfl,by simp,fun i u hi => ?_⟩⟩,hl,fun i hi => ?_⟩
 ·rw [cell_of_row _ w.heap.size _ _ _ _ (heap_alloc_new _ _)]
  simpa using hi
 ·obtain ⟨x,h1,h2⟩:=h i hi
  exact ⟨x,h1,h2.below hb⟩
theorem ZzI (q r b:Nat) (hr:r<256) (hb:b<256):(256*q+r) ^^^ b=256*q+(r ^^^ b):=by
 have h1:=Nat.xor_mod_two_pow (a:=256*q+r) (b:=b) (n:=8)
 have h2:=Nat.shiftRight_xor_distrib (a:=256*q+r) (b:=b) (i:=8)
 rw [Nat.shiftRight_eq_div_pow,Nat.shiftRight_eq_div_pow,Nat.shiftRight_eq_div_pow] at h2
 rw [show (2:Nat)^8=256 from rfl] at h1 h2
 rw [show (256*q+r)%256=r by omega,show b%256=b by omega] at h1
 rw [show (256*q+r) / 256=q by omega,show b / 256=0 by omega,Nat.xor_zero] at h2
 omega
theorem ZpD (m b:Nat) (hb:b<256):onB m b=Zwp 8 (m%256 ^^^ b) ^^^ m / 256:=by
 have hz:m%256 ^^^ b<256:=Nat.xor_lt_two_pow (n:=8) (by omega) hb
 have h1:=ZzI (m / 256) (m%256) b (by omega) hb
 have h2:=ZzI (m / 256) 0 (m%256 ^^^ b) (by omega) hz
 rw [Nat.zero_xor,Nat.add_zero] at h2
 rw [show 256*(m / 256)+m%256=m by omega] at h1
 unfold onB
 rw [h1,← h2,ZwA,Zww,Nat.xor_comm]
theorem ZwV (m:Nat) (c:UInt8):bits .xor .u8 ((m:Int)%256) (c.toNat:Int)=((m%256 ^^^ c.toNat:Nat):Int):=by
 rw [show (m:Int)%256=((m%256:Nat):Int) by omega]
 exact u8_xor_nat _ _ (by omega) c.toNat_lt
theorem ZwW (m:Nat) (c:UInt8) (hm:m<4294967296):bits .xor .u32 ((Zwp 8 (m%256 ^^^ c.toNat):Nat):Int) ((m:Int) / 256)=((onB m c.toNat:Nat):Int):=by
 have hz:m%256 ^^^ c.toNat<256:=Nat.xor_lt_two_pow (n:=8) (by omega) c.toNat_lt
 rw [show (m:Int) / 256=((m / 256:Nat):Int) by omega,u32_xor_nat _ _ (Zwx 8 (by omega)) (by omega),ZpD m _ c.toNat_lt]
theorem ZuU {ls:List (List UInt8)} {k:Nat} (hk:k<ls.length):(ls.drop k).flatten=ls[k]++(ls.drop (k+1)).flatten:=by
 rw [List.drop_eq_getElem_cons hk,List.flatten_cons]
end Go.Proofs.YtdijhifdjbnkfaaGreat.CR
namespace Go.Proofs.YtdijhifdjbnkfaaGreat.CR
open Go.RowKit MM CM
theorem ZoB {n:Nat} (hn:n<4294967296):4294967295 ^^^ n=4294967295 - n:=by
 have h:=congrArg BitVec.toNat (BitVec.allOnes_xor (x:=BitVec.ofNat 32 n))
 simp only [BitVec.toNat_xor,BitVec.toNat_allOnes,BitVec.toNat_not,BitVec.toNat_ofNat] at h
 rw [show n%2^32=n by omega] at h
 simpa using h
theorem ZoX {n:Nat} (hn:n<4294967296):bits .xor .u32 IntKind.u32.max (n:Int)=((notB n:Nat):Int):=by
 have h:=u32_xor_nat 4294967295 n (by omega) hn
 rw [ZoB hn] at h
 exact h
theorem Zyo:IntKind.u32.signed=false:=rfl
theorem Tab.of_row {B:Nat} {w:World} {T:Array Value} (hT:tab=T) (h:w.heap[B]? = some (.cells T 308 (0,0))):Tab B 256 w:=by
 subst hT
 exact ⟨tab,h,ZwU,fun k hk=>ZwS hk⟩
theorem ZuT {l R:List UInt8} {m j r:Nat} (hj:j<l.length) (h:run m (l.drop j++R)=r):run (onB m (l[j]).toNat) (l.drop (j+1)++R)=r:=by
 rw [List.drop_eq_getElem_cons hj,List.cons_append,ZuS] at h
 exact h
theorem ZkQ (s:Nat) (v:Value) (ls:List (List UInt8)) (w:World) (hs:s<4294967296) (hr:PRow w v ls) :
  Calls Tryz.prog 205 #[.int .u32 s,v] w fun e w'=>e=.returned (.int .u32 (ZoH s ls.flatten:Nat))∧Below w.heap.size w w':=by
 obtain ⟨p,cap,rfl,hlc,hcm⟩:=hr.shape
 unfold maxLen at hcm
 obtain ⟨T,hT⟩:∃ T,tab=T:=⟨_,rfl⟩
 have HTs:Hid (T.size=256):=Lib.hid (hT▸ZwU)
 have HT1:Hid (T.all (·.oneCell')=true):=Lib.hid (hT▸ZwT)
 have HTab:Hid (∀ B W,W.heap[B]? = some (.cells T 308 (0,0))→Tab B 256 W):=Lib.hid (fun B W h=>Tab.of_row hT h)
 have hK:=fun W=>ZwR W
 rw [hT] at hK
 have HK:=Lib.hid hK
 obtain ⟨Z,hZ,hZ0,hz⟩:=ZzP
 obtain ⟨r,hrr⟩:∃ r,run (notB s) ls.flatten=r:=⟨_,rfl⟩
 have HRes:Hid (ZoH s ls.flatten=notB r):=Lib.hid (by unfold ZoH;rw [hrr])
 have HR0:Hid (run (notB s) (ls.drop 0).flatten=r):=Lib.hid hrr
 have HZ:=Lib.hid hZ
 have HP:=Lib.hid hr
 obtain ⟨F,hF⟩:∃ F,ZoH s ls.flatten=F:=⟨_,rfl⟩
 rw [hF]
 rw [hF] at HRes
 clear hT hK hZ hZ0 hrr hr hF
 go_enter Tryz.func205,Tryz.ntmps205
 go_wp2_with fail
 refine (HK.out _).mono ?_
 rintro e w1 ⟨rfl,hb1⟩
 have hb2:Below w.heap.size w (w1.alloc (.cells Z 308)):=hb1.alloc hb1.size _
 have hg2:(w1.alloc (.cells Z 308)).heap[w1.heap.size]? = some (.cells Z 308 (0,0)):=heap_alloc_new _ _
 have hg3:=setRow_heap _ w1.heap.size Z T _ _ hg2
 have HT3:=Lib.hid (HTab.out _ _ hg3)
 have HB3:=Lib.hid (ZcP T hb2 hb1.size)
 have hi:(Tryz.prog.info? 308).map (·.size)=some T.size:=by rw [HTs.out];exact ZlY
 have hzt:Z.size=T.size:=by rw [HTs.out,HZ.out]
 have HG2:=Lib.hid hg2
 have HI:=Lib.hid hi
 have HZT:=Lib.hid hzt
 clear hg2 hg3 hi hzt hb2
 obtain ⟨w3,hw3⟩:∃ w3,(w1.alloc (.cells Z 308)).setRow w1.heap.size T=w3:=⟨_,rfl⟩
 rw [hw3] at HT3 HB3
 have HW3:=Lib.hid hw3
 have hsz1:=HB3.out.size
 have HP3:=Lib.hid (HP.out.below HB3.out)
 obtain ⟨g,hg⟩:∃ g,w1.heap.size=g:=⟨_,rfl⟩
 have HG:=Lib.hid hg
 clear hw3 hg
 have hu:=Zyo
 have hn:=ZoX hs
 have hnl:=ZoV s
 go_wp2_with (refine wpList_store_row rfl 308 (.tmp 5) (.tmp 10) rfl w1.heap.size T rfl rfl 308 Z HG2.out HI.out HZT.out HT1.out ?_;rw [HW3.out])
 clear hz HG2 HI HZT HT1 HZ HTs HTab HK HW3 HP
 rw [HG.out] at HT3
 rw [HG.out]
 clear HG
 go_loop [0,15] (fun s i=>∃ k m:Nat,k≤ls.length∧i=.int .i64 k∧s=.int .u32 m∧m<4294967296∧Hid (run m (ls.drop k).flatten=r)) (fun _ i=>ls.length - (intOf i).toNat)
 case atStart=>exact ⟨0,notB s,by omega,rfl,rfl,hnl,HR0⟩
 case round =>
  obtain ⟨k,m,hk,rfl,rfl,hm,H⟩:=hrel
  clear HR0 hn hnl hs
  by_cases hlt:k<ls.length
  ·obtain ⟨b,off,x,rfl,hcell,hx⟩:=HP3.out.at_ hlt
   have h2:=H.out
   rw [ZuU hlt] at h2
   generalize ls[k]=l at h2 hx
   obtain ⟨p2,cap2,rfl,hlc2,hcm2⟩:=hx.shape
   unfold maxLen at hcm2
   obtain ⟨R,hR⟩:∃ R,(ls.drop (k+1)).flatten=R:=⟨_,rfl⟩
   rw [hR] at h2
   have HRR:=Lib.hid hR
   clear hR
   have H2:Hid (run m (l.drop 0++R)=r):=Lib.hid h2
   have HX:=Lib.hid hx
   clear h2 H hx
   go_wp2_with fail
   go_loop [0,21] (fun s i=>∃ j m:Nat,j≤l.length∧i=.int .i64 j∧s=.int .u32 m∧m<4294967296∧Hid (run m (l.drop j++R)=r)) (fun _ i=>l.length - (intOf i).toNat)
   case atStart=>exact ⟨0,m,by omega,rfl,rfl,hm,H2⟩
   case round =>
    obtain ⟨j,n,hj,rfl,rfl,hn,H3⟩:=hrel
    clear H2 hm hcell
    by_cases hjl:j<l.length
    ·obtain ⟨b2,off2,rfl,hbl2,hcell2⟩:=HX.out.at_ hjl
     have h4:=ZuT hjl H3.out
     generalize l[j]=c at h4 hcell2
     have hz:n%256 ^^^ c.toNat<256:=Nat.xor_lt_two_pow (n:=8) (by omega) c.toNat_lt
     have htab:=HT3.out.cell hz
     have e1:=ZwV n c
     have e2:=ZwW n c hn
     have hn2:=ZpC hn c.toNat_lt
     have hcb:=c.toNat_lt
     have hb1:(0:Int)≤((n%256 ^^^ c.toNat:Nat):Int):=by omega
     have hb2:((n%256 ^^^ c.toNat:Nat):Int)<256:=by omega
     generalize n%256 ^^^ c.toNat=z at *
     generalize onB n c.toNat=n2 at *
     have H4:=Lib.hid h4
     clear h4 H3
     go_wp2_with fail
     go_round
     case rel=>exact ⟨j+1,n2,by omega,by go_num,rfl,hn2,H4⟩
     case measure=>simp [intOf];omega
    ·obtain rfl:j=l.length:=by omega
     have h4:=H3.out
     rw [List.drop_length,List.nil_append,← HRR.out] at h4
     have H4:=Lib.hid h4
     clear h4 H3
     go_wp2_with fail
     go_round
     case rel=>exact ⟨k+1,n,by omega,by go_num,rfl,hn,H4⟩
     case measure=>simp [intOf];omega
  ·obtain rfl:k=ls.length:=by omega
   have hn:=ZoX hm
   have h2:=H.out
   rw [List.drop_length] at h2
   have h3:m=r:=h2
   subst h3
   clear h2 H
   go_wp2_with fail
   have hF:=HRes.out
   subst hF
   go_ret
   exact ⟨rfl,HB3.out⟩
end Go.Proofs.YtdijhifdjbnkfaaGreat.CR
namespace Go.Proofs.YtdijhifdjbnkfaaGreat.CR
open Go.RowKit MM CM
def Told (n:Nat) (w:World) (e:Ending) (w':World):Prop:=e=.returned (.int .u32 n)∧Below w.heap.size w w'
theorem ZwO (v:Value) (ls:List (List UInt8)) (w:World) (hr:PRow w v ls):Calls Tryz.prog 155 #[v] w (Told (sumL ls.flatten) w):=by
 have h:=ZkQ 0 v ls w (by omega) hr
 unfold sumL Told
 generalize ZoH 0 ls.flatten=F at *
 have H:=Lib.hid h
 clear h hr
 go_enter Tryz.func155,Tryz.ntmps155
 go_wp2_with fail
 refine H.out.mono ?_
 rintro e w1 ⟨rfl,hb⟩
 go_wp2_with fail
 go_ret
 exact ⟨rfl,hb⟩
end Go.Proofs.YtdijhifdjbnkfaaGreat.CR
namespace Go.Proofs.YtdijhifdjbnkfaaGreat.MM
open Go Go.RowKit
def Zbz (w:World) (g:Nat) (t:TypeId) (a b c:Value):Prop:=w.heap[g]? = some (.cells #[a,b,c] t (0,0))
section
variable {w w' : World} {g : Nat} {t : TypeId} {a b c : Value}
theorem Zbz.lt (h:Zbz w g t a b c):g<w.heap.size:=(Array.getElem?_eq_some_iff.1 h).1
theorem Zbz.c0 (h:Zbz w g t a b c):w.cell? ⟨g,0,none⟩=some a:=by rw [cell_of_row w g 0 _ _ _ h];rfl
theorem Zbz.c1 (h:Zbz w g t a b c):w.cell? ⟨g,1,none⟩=some b:=by rw [cell_of_row w g 1 _ _ _ h];rfl
theorem Zbz.c2 (h:Zbz w g t a b c):w.cell? ⟨g,2,none⟩=some c:=by rw [cell_of_row w g 2 _ _ _ h];rfl
theorem Zbz.fr (h:Zbz w g t a b c) (i:Nat):w.frozen? ⟨g,i,none⟩=false:=frozen_of_row w g i _ _ h
theorem Zbz.s0 (h:Zbz w g t a b c) (x:Value):Zbz (w.setCell ⟨g,0,none⟩ x) g t x b c:=heap_setCell_same w g 0 _ _ x h
theorem Zbz.s1 (h:Zbz w g t a b c) (x:Value):Zbz (w.setCell ⟨g,1,none⟩ x) g t a x c:=heap_setCell_same w g 1 _ _ x h
theorem Zbz.s2 (h:Zbz w g t a b c) (x:Value):Zbz (w.setCell ⟨g,2,none⟩ x) g t a b x:=heap_setCell_same w g 2 _ _ x h
def set3 (w:World) (g:Nat) (x y z:Value):World:=((w.setCell ⟨g,0,none⟩ x).setCell ⟨g,1,none⟩ y).setCell ⟨g,2,none⟩ z
theorem Zbz.set (h:Zbz w g t a b c) (x y z:Value):Zbz (set3 w g x y z) g t x y z:=((h.s0 x).s1 y).s2 z
theorem Zbz.keep {S:Nat→Prop} (h:Zbz w g t a b c) (hk:Kep S w w') (hS:S g):Zbz w' g t a b c:=(hk.block g h.lt hS).trans h
theorem Zbz.below {B:Nat} (h:Zbz w g t a b c) (hb:Below B w w') (hg:g<B):Zbz w' g t a b c:=(hb.block g hg).trans h
theorem ZxD (w:World) (t:TypeId) (a b c:Value):Zbz (w.alloc (.cells #[a,b,c] t)) w.heap.size t a b c:=heap_alloc_new _ _
theorem Zbz.cells (h:Zbz w g t a b c):w.cell? ⟨g,0,none⟩=some a∧w.cell? ⟨g,1,none⟩=some b∧w.cell? ⟨g,2,none⟩=some c:=⟨h.c0,h.c1,h.c2⟩
theorem Zbz.all (h:Zbz w g t a b c) (x y:Value) :
  w.frozen? ⟨g,0,none⟩=false∧w.frozen? ⟨g,1,none⟩=false∧w.frozen? ⟨g,2,none⟩=false ∧
  ((w.setCell ⟨g,0,none⟩ x).cell? ⟨g,1,none⟩=some b∧(w.setCell ⟨g,0,none⟩ x).frozen? ⟨g,1,none⟩=false) ∧
  (((w.setCell ⟨g,0,none⟩ x).setCell ⟨g,1,none⟩ y).cell? ⟨g,2,none⟩=some c∧((w.setCell ⟨g,0,none⟩ x).setCell ⟨g,1,none⟩ y).frozen? ⟨g,2,none⟩=false) :=
 ⟨h.fr 0,h.fr 1,h.fr 2,⟨(h.s0 x).c1,(h.s0 x).fr 1⟩,⟨((h.s0 x).s1 y).c2,((h.s0 x).s1 y).fr 2⟩⟩
end
section
variable {P : Program} {fn : Func} {t : TypeId} {ty : TypeDesc}
end
end Go.Proofs.YtdijhifdjbnkfaaGreat.MM
namespace Go.Proofs.YtdijhifdjbnkfaaGreat.MM
open Go Go.RowKit
def Four (w:World) (g:Nat) (t:TypeId) (a b c d:Value):Prop:=w.heap[g]? = some (.cells #[a,b,c,d] t (0,0))
section
variable {w w' : World} {g : Nat} {t : TypeId} {a b c d : Value}
theorem Four.lt (h:Four w g t a b c d):g<w.heap.size:=(Array.getElem?_eq_some_iff.1 h).1
theorem Four.c0 (h:Four w g t a b c d):w.cell? ⟨g,0,none⟩=some a:=by rw [cell_of_row w g 0 _ _ _ h];rfl
theorem Four.c1 (h:Four w g t a b c d):w.cell? ⟨g,1,none⟩=some b:=by rw [cell_of_row w g 1 _ _ _ h];rfl
theorem Four.c2 (h:Four w g t a b c d):w.cell? ⟨g,2,none⟩=some c:=by rw [cell_of_row w g 2 _ _ _ h];rfl
theorem Four.c3 (h:Four w g t a b c d):w.cell? ⟨g,3,none⟩=some d:=by rw [cell_of_row w g 3 _ _ _ h];rfl
theorem Four.fr (h:Four w g t a b c d) (i:Nat):w.frozen? ⟨g,i,none⟩=false:=frozen_of_row w g i _ _ h
theorem Four.s0 (h:Four w g t a b c d) (x:Value):Four (w.setCell ⟨g,0,none⟩ x) g t x b c d:=heap_setCell_same w g 0 _ _ x h
theorem Four.s1 (h:Four w g t a b c d) (x:Value):Four (w.setCell ⟨g,1,none⟩ x) g t a x c d:=heap_setCell_same w g 1 _ _ x h
theorem Four.s2 (h:Four w g t a b c d) (x:Value):Four (w.setCell ⟨g,2,none⟩ x) g t a b x d:=heap_setCell_same w g 2 _ _ x h
theorem Four.s3 (h:Four w g t a b c d) (x:Value):Four (w.setCell ⟨g,3,none⟩ x) g t a b c x:=heap_setCell_same w g 3 _ _ x h
def set4 (w:World) (g:Nat) (x y z u:Value):World:=(((w.setCell ⟨g,0,none⟩ x).setCell ⟨g,1,none⟩ y).setCell ⟨g,2,none⟩ z).setCell ⟨g,3,none⟩ u
theorem Four.set (h:Four w g t a b c d) (x y z u:Value):Four (set4 w g x y z u) g t x y z u:=(((h.s0 x).s1 y).s2 z).s3 u
theorem Four.keep {S:Nat→Prop} (h:Four w g t a b c d) (hk:Kep S w w') (hS:S g):Four w' g t a b c d:=(hk.block g h.lt hS).trans h
theorem Four.below {B:Nat} (h:Four w g t a b c d) (hb:Below B w w') (hg:g<B):Four w' g t a b c d:=(hb.block g hg).trans h
theorem Zjz (w:World) (t:TypeId) (a b c d:Value):Four (w.alloc (.cells #[a,b,c,d] t)) w.heap.size t a b c d:=heap_alloc_new _ _
theorem Four.cells (h:Four w g t a b c d):w.cell? ⟨g,0,none⟩=some a∧w.cell? ⟨g,1,none⟩=some b∧w.cell? ⟨g,2,none⟩=some c∧w.cell? ⟨g,3,none⟩=some d:=⟨h.c0,h.c1,h.c2,h.c3⟩
theorem Four.all (h:Four w g t a b c d) (x y z:Value) :
  w.frozen? ⟨g,0,none⟩=false∧w.frozen? ⟨g,1,none⟩=false∧w.frozen? ⟨g,2,none⟩=false∧w.frozen? ⟨g,3,none⟩=false ∧
  ((w.setCell ⟨g,0,none⟩ x).cell? ⟨g,1,none⟩=some b∧(w.setCell ⟨g,0,none⟩ x).frozen? ⟨g,1,none⟩=false) ∧
  (((w.setCell ⟨g,0,none⟩ x).setCell ⟨g,1,none⟩ y).cell? ⟨g,2,none⟩=some c∧((w.setCell ⟨g,0,none⟩ x).setCell ⟨g,1,none⟩ y).frozen? ⟨g,2,none⟩=false) ∧
  ((((w.setCell ⟨g,0,none⟩ x).setCell ⟨g,1,none⟩ y).setCell ⟨g,2,none⟩ z).cell? ⟨g,3,none⟩=some d∧(((w.setCell ⟨g,0,none⟩ x).setCell ⟨g,1,none⟩ y).setCell ⟨g,2,none⟩ z).frozen? ⟨g,3,none⟩=false) :=
 ⟨h.fr 0,h.fr 1,h.fr 2,h.fr 3,⟨(h.s0 x).c1,(h.s0 x).fr 1⟩,⟨((h.s0 x).s1 y).c2,((h.s0 x).s1 y).fr 2⟩,⟨(((h.s0 x).s1 y).s2 z).c3,(((h.s0 x).s1 y).s2 z).fr 3⟩⟩
theorem Zm2 {g:Nat} (x y z u:Value):Kep (fun b=>b≠g) w (set4 w g x y z u) :=
 (((ZmZ (fun h=>h rfl) x).trans (ZmZ (fun h=>h rfl) y)).trans (ZmZ (fun h=>h rfl) z)).trans (ZmZ (fun h=>h rfl) u)
end
section
variable {P : Program} {fn : Func} {t : TypeId} {ty : TypeDesc}
theorem Zta {p:Tmp} (h:fn.results=#[.cell p t]) (hu:P.underlying t=some ty) (hd:(match ty with | .struct _ | .array _ _=>true | _=>false)=true) (hi:(P.info? t).map (·.size)=some 4) (tmps:Array Value) (w:World) (g:Nat) (a b c d:Value)
  (hp:tmps.getD p undef=.pointer (some ⟨g,0,none⟩)) (hg:Four w g t a b c d):(results fn tmps).run P w=.ok (.agg #[a,b,c,d]) w:=by
 have hp':tmps[p]?.getD undef=.pointer (some ⟨g,0,none⟩):=by simpa using hp
 have hl:=run_loadVar_row (P:=P) w g t t _ (0,0) ty hg hu hd hi
 simp [results,h,hp',asAddr,hl]
theorem Ztb {p u:Tmp} (h:fn.results=#[.cell p t,.tmp u]) (hu:P.underlying t=some ty) (hd:(match ty with | .struct _ | .array _ _=>true | _=>false)=true) (hi:(P.info? t).map (·.size)=some 4) (tmps:Array Value) (w:World) (g:Nat) (a b c d:Value)
  (hp:tmps.getD p undef=.pointer (some ⟨g,0,none⟩)) (hg:Four w g t a b c d):(results fn tmps).run P w=.ok (.tuple #[.agg #[a,b,c,d],tmps.getD u undef]) w:=by
 have hp':tmps[p]?.getD undef=.pointer (some ⟨g,0,none⟩):=by simpa using hp
 have hl:=run_loadVar_row (P:=P) w g t t _ (0,0) ty hg hu hd hi
 simp [results,h,hp',asAddr,hl]
end
end Go.Proofs.YtdijhifdjbnkfaaGreat.MM
namespace Go.Proofs.YtdijhifdjbnkfaaGreat.BL
open Go.RowKit MM BM
theorem Zwn (h:Int) (c:UInt8):IntKind.u64.wrap (bits .xor .u64 h (IntKind.u64.wrap (c.toNat:Int))*1099511628211)=Zwj h c:=by
 have:=c.toNat_lt
 unfold Zwj
 rw [show IntKind.u64.wrap (c.toNat:Int)=(c.toNat:Int) by rw [wrap_u64];omega]
theorem ZtV (s:List UInt8) (w:World) (hs:s.length≤1000000000000):Calls Tryz.prog 114 #[.string ⟨s.toArray⟩] w fun e w'=>e=.returned (.int .u64 (numL s))∧w=w':=by
 obtain ⟨R,hR⟩:∃ R,numL s=R:=⟨_,rfl⟩
 rw [hR]
 have HR:=Lib.hid hR
 clear hR
 go_enter Tryz.func114,Tryz.ntmps114
 go_wp2_with fail
 go_loopw [3,4] (fun h i wr=>∃ k:Nat,k≤s.length∧h=.int .u64 (numL (s.take k))∧i=.int .i64 k∧wr=w) (fun _ i _=>s.length - (intOf i).toNat)
 case atStart=>exact ⟨0,by omega,rfl,rfl,rfl⟩
 case round =>
  obtain ⟨k,hk,rfl,rfl,rfl⟩:=hrel
  by_cases hlt:k<s.length
  ·have t1:decide ((k:Int)<(s.length:Int))=true:=by simp;omega
   have HN:=Lib.hid (Zo0 hlt)
   obtain ⟨h,hh⟩:∃ h,numL (s.take k)=h:=⟨_,rfl⟩
   rw [hh] at HN ⊢
   clear hh
   go_wp2_with fail
   go_roundw
   case rel=>exact ⟨k+1,by omega,by rw [HN.out];exact congrArg (Value.int .u64) (Zwn h s[k]),by go_num,trivial⟩
   case measure=>simp [intOf];omega
  ·obtain rfl:k=s.length:=by omega
   rw [List.take_length,HR.out]
   have t1:decide ((s.length:Int)<(s.length:Int))=false:=by simp
   go_wp2_with fail
   go_ret
   exact ⟨rfl,rfl⟩
theorem Zfl (s:List UInt8) (w:World) (hs:s.length≤1000000000000):Calls Tryz.prog 215 #[.string ⟨s.toArray⟩] w fun e w'=>e=.returned (.int .u64 (numL s))∧w=w':=by
 obtain ⟨R,hR⟩:∃ R,numL s=R:=⟨_,rfl⟩
 rw [hR]
 have HR:=Lib.hid hR
 clear hR
 go_enter Tryz.func215,Tryz.ntmps215
 go_wp2_with fail
 go_loopw [3,7] (fun h i wr=>∃ k:Nat,k≤s.length∧h=.int .u64 (numL (s.take k))∧i=.int .i64 k∧wr=w) (fun _ i _=>s.length - (intOf i).toNat)
 case atStart=>exact ⟨0,by omega,rfl,rfl,rfl⟩
 case round =>
  obtain ⟨k,hk,rfl,rfl,rfl⟩:=hrel
  by_cases hlt:k<s.length
  ·have t1:decide ((k:Int)<(s.length:Int))=true:=by simp;omega
   have HN:=Lib.hid (Zo0 hlt)
   obtain ⟨h,hh⟩:∃ h,numL (s.take k)=h:=⟨_,rfl⟩
   rw [hh] at HN ⊢
   clear hh
   go_wp2_with fail
   go_roundw
   case rel=>exact ⟨k+1,by omega,by rw [HN.out];exact congrArg (Value.int .u64) (Zwn h s[k]),by go_num,trivial⟩
   case measure=>simp [intOf];omega
  ·obtain rfl:k=s.length:=by omega
   rw [List.take_length,HR.out]
   have t1:decide ((s.length:Int)<(s.length:Int))=false:=by simp
   go_wp2_with fail
   go_ret
   exact ⟨rfl,rfl⟩
end Go.Proofs.YtdijhifdjbnkfaaGreat.BL
namespace Go.Proofs.YtdijhifdjbnkfaaGreat.BL
open Go.RowKit MM BM
theorem Zq7 (a b i n:Nat) (ha:a<4294967296) (hb:b≤4294967296) (hi:i<4) (hn0:8≤n) (hn1:n≤131072) :
  wrap64 ((IntKind.u64.wrap ((a:Int)+IntKind.u64.wrap ((i:Int)*(b:Int)))).tmod (8*(n:Int)))=(((a+i*b)%(8*n):Nat):Int):=by
 have hm:i*b≤4*4294967296:=Nat.mul_le_mul (by omega) hb
 have e1:(i:Int)*(b:Int)=((i*b:Nat):Int):=by simp
 rw [e1]
 generalize i*b=X at *
 have e2:IntKind.u64.wrap (X:Int)=(X:Int):=by rw [wrap_u64];omega
 rw [e2]
 have e3:IntKind.u64.wrap ((a:Int)+(X:Int))=((a+X:Nat):Int):=by rw [wrap_u64];omega
 rw [e3,show (8*(n:Int))=((8*n:Nat):Int) by omega,← Int.ofNat_tmod]
 have hl:(a+X)%(8*n)<8*n:=Nat.mod_lt _ (by omega)
 generalize (a+X)%(8*n)=Z at *
 unfold wrap64
 omega
theorem Zk3 {L:List UInt8} {k:Nat} (hk:k / 8<L.length):hasL L k=bitB L[k / 8] (k%8):=by
 unfold hasL
 simp [List.getD,hk]
end Go.Proofs.YtdijhifdjbnkfaaGreat.BL
namespace Go.Proofs.YtdijhifdjbnkfaaGreat.BL
open Go.RowKit MM BM
def Pl (m:Nat) (s:List UInt8) (B n:Nat) (w:World):Prop:=∃ cur:Array Value,w.heap[B]? = some (.cells cur 257 (0,0))∧cur.size=4∧∀ k,k<n→cur[k]? = some (.int .i64 (Zq3 m s k:Nat))
theorem Pl.there {m B n:Nat} {s:List UInt8} {w:World} (h:Pl m s B n w) {k:Nat} (hk:k<4):∃ v,w.cell? ⟨B,k,none⟩=some v:=by
 obtain ⟨cur,hb,hs,_⟩:=h
 exact ⟨cur[k],by rw [cell_of_row w B k cur _ _ hb];simp [hs,hk]⟩
theorem Pl.free {m B n:Nat} {s:List UInt8} {w:World} (h:Pl m s B n w) (k:Nat):w.frozen? ⟨B,k,none⟩=false:=by
 obtain ⟨cur,hb,_,_⟩:=h
 exact frozen_of_row w B k cur _ hb
theorem Pl.put {m B n:Nat} {s:List UInt8} {w:World} (h:Pl m s B n w) (hn:n<4):Pl m s B (n+1) (w.setCell ⟨B,n,none⟩ (.int .i64 (Zq3 m s n:Nat))):=by
 obtain ⟨cur,hb,hs,hc⟩:=h
 refine ⟨_,heap_setCell_same w B n cur _ _ hb,by simp [hs],fun k hk => ?_⟩
 by_cases hkn:k=n
 ·subst hkn
  simp [hs,hn]
 ·rw [Array.getElem?_setIfInBounds_ne (by omega)]
  exact hc k (by omega)
def plA (m:Nat) (s:List UInt8):Array Value:=#[.int .i64 (Zq3 m s 0:Nat),.int .i64 (Zq3 m s 1:Nat),.int .i64 (Zq3 m s 2:Nat),.int .i64 (Zq3 m s 3:Nat)]
theorem Pl.all {m B:Nat} {s:List UInt8} {w:World} (h:Pl m s B 4 w):w.heap[B]? = some (.cells (plA m s) 257 (0,0)):=by
 obtain ⟨cur,hb,hs,hc⟩:=h
 have:cur=plA m s:=by
  apply Array.ext_getElem?
  intro k
  by_cases hk:k<4
  ·rw [hc k hk]
   match k,hk with
   | 0,_=>rfl
   | 1,_=>rfl
   | 2,_=>rfl
   | 3,_=>rfl
  ·rw [Array.getElem?_eq_none (by omega),Array.getElem?_eq_none (by simp [plA];omega)]
 rw [← this]
 exact hb
theorem Zq2 (m:Nat) (s:List UInt8):(plA m s).all (·.oneCell')=true:=by
 simp only [plA,List.all_toArray,List.all_cons,List.all_nil]
 rfl
theorem Zl3:(Tryz.prog.info? 257).map (·.size)=some 4:=by kernel_rfl
theorem ZzQ:∃ Z:Array Value,Z.size=4∧∀ W,Sem.run Tryz.prog (zeroValue 257) W=.ok (.agg Z) W :=
 ⟨#[.int .i64 0,.int .i64 0,.int .i64 0,.int .i64 0],rfl,fun W=>by kernel_rfl⟩
theorem ZcP {B g:Nat} {a w:World} (cs:Array Value) (h:Below B a w) (hg:B≤g):Below B a (w.setRow g cs) :=
 ⟨h.os,h.tape,h.output,by rw [setRow_size];exact h.size,fun i hi=>by rw [setRow_other w g i cs (by omega)];exact h.block i hi⟩
theorem Zcf (N:Nat) (hN:N<18446744073709551616):bits .and .u64 (N:Int) 4294967295=(N:Int)%4294967296:=by
 have:=bits_and_u64_nat N 4294967295 hN (by decide)
 rw [show (4294967295:Int)=((4294967295:Nat):Int) from rfl,this]
 have e:N &&& 4294967295=N%4294967296:=Nat.and_two_pow_sub_one_eq_mod N 32
 rw [e]
 omega
theorem ZpX (Q:Nat) (hQ:Q<4294967296):bits .or .u64 (Q:Int) 1=((if Q%2=0 then Q+1 else Q:Nat):Int):=by
 have:=bits_or_u64_nat Q 1 (by omega) (by decide)
 rw [show (1:Int)=((1:Nat):Int) from rfl,this]
 congr 1
 apply Nat.eq_of_testBit_eq
 intro i
 rw [Nat.testBit_or]
 by_cases h:Q%2=0
 ·rw [if_pos h]
  cases i with
  | zero=>simp [Nat.testBit_zero];omega
  | succ i =>
    simp only [Nat.testBit_succ]
    rw [show (Q+1) / 2=Q / 2 by omega]
    simp
 ·rw [if_neg h]
  cases i with
  | zero=>simp [Nat.testBit_zero];omega
  | succ i=>simp [Nat.testBit_succ]
theorem Zq9 (s:List UInt8) (n:Nat) (w:World) (hs:s.length≤1000000000000) (hn0:8≤n) (hn1:n≤131072) :
  Calls Tryz.prog 171 #[.string ⟨s.toArray⟩,.int .i64 (8*(n:Int))] w fun e w'=>e=.returned (.agg (plA (8*n) s))∧Below w.heap.size w w':=by
 have HK:=Lib.hid (fun W=>Zfl s W hs)
 obtain ⟨N,hN⟩:∃ N:Nat,numL s=(N:Int):=⟨(numL s).toNat,by have:=(Zo3 s).1;omega⟩
 rw [hN] at HK
 have hr:=(Zo3 s).2
 rw [hN] at hr
 have hN2:N<18446744073709551616:=by omega
 clear hr
 have hand:=Zcf N hN2
 have hor:=ZpX (N / 4294967296) (by omega)
 have e1:ZiJ s=N%4294967296:=by unfold ZiJ;rw [hN];omega
 have e2:Zvv s=if N / 4294967296%2=0 then N / 4294967296+1 else N / 4294967296:=by
  have eh:ZkZ s=N / 4294967296:=by unfold ZkZ;rw [hN];omega
  unfold Zvv;rw [eh]
 rw [← e2,show ((N / 4294967296:Nat):Int)=(N:Int) / 4294967296 by omega] at hor
 have hf:=ZiK s
 have hsc:=Zvw s
 have HPL:=Lib.hid (fun i (hi:i<4)=>Zq7 (ZiJ s) (Zvv s) i n hf (by omega) hi hn0 hn1)
 have HPI:Hid (∀ i,(ZiJ s+i*Zvv s)%(8*n)=Zq3 (8*n) s i):=Lib.hid (fun i=>rfl)
 have hand2:bits .and .u64 (N:Int) 4294967295=(ZiJ s:Int):=by rw [hand,e1];omega
 obtain ⟨P,hP⟩:∃ P,plA (8*n) s=P:=⟨_,rfl⟩
 have HAll:=Lib.hid (fun W (h:Pl (8*n) s w.heap.size 4 W)=>hP▸h.all)
 have HP4:Hid (P.size=4):=Lib.hid (hP▸rfl)
 have HP1:Hid (P.all (·.oneCell')=true):=Lib.hid (hP▸Zq2 _ _)
 rw [hP]
 clear hP hand e1 e2 hN
 generalize ZiJ s=a at *
 generalize Zvv s=b at *
 obtain ⟨Z,hZ,hz⟩:=ZzQ
 have ht0:Pl (8*n) s w.heap.size 0 (w.alloc (.cells Z 257)):=⟨Z,heap_alloc_new _ _,hZ,fun k hk=>by omega⟩
 have hb0:Below w.heap.size w (w.alloc (.cells Z 257)):=(Below.refl _ _).alloc (Nat.le_refl _) _
 have HT0:=Lib.hid ht0
 have HB0:=Lib.hid hb0
 clear ht0 hb0 hZ
 have HAND:=Lib.hid hand2
 have HOR:=Lib.hid hor
 clear hand2 hor
 go_enter Tryz.func171,Tryz.ntmps171
 go_wp2_with fail
 refine (HK.out _).mono ?_
 rintro e w1 ⟨rfl,rfl⟩
 go_wp2_with fail
 rw [HAND.out,HOR.out]
 clear HAND HOR HK hz
 go_loopw [16] (fun iv wr=>∃ i:Nat,i≤4∧iv=.int .i64 i∧Hid (Pl (8*n) s w.heap.size i wr)∧Hid (Below w.heap.size w wr)) (fun iv _=>4 - (intOf iv).toNat)
 case atStart=>exact ⟨0,by omega,rfl,HT0,HB0⟩
 case round =>
  obtain ⟨i,hi,rfl,HT,HB⟩:=hrel
  clear HT0 HB0
  by_cases hlt:i<4
  ·have t1:decide ((i:Int)<4)=true:=by simp;omega
   have hfz:=HT.out.free i
   obtain ⟨old,hold⟩:=HT.out.there hlt
   have hpl:=HPL.out i hlt
   rw [HPI.out] at hpl
   have HT3:=Lib.hid (HT.out.put hlt)
   have HB3:=Lib.hid (HB.out.setCell (p:=⟨w.heap.size,i,none⟩) (Nat.le_refl _) (.int .i64 (Zq3 (8*n) s i:Nat)))
   obtain ⟨X,hX⟩:∃ X,Zq3 (8*n) s i=X:=⟨_,rfl⟩
   rw [hX] at HT3 HB3 hpl
   have HX:=Lib.hid hpl
   clear hX HT HB hpl
   go_wp2_with fail
   rw [HX.out]
   go_roundw
   case rel=>exact ⟨i+1,by omega,by go_num,HT3,HB3⟩
   case measure=>simp [intOf];omega
  ·obtain rfl:i=4:=by omega
   have t1:decide ((4:Int)<4)=false:=by simp
   have hg:=HAll.out _ HT.out
   have hs:=HP4.out
   have hi:(Tryz.prog.info? 257).map (·.size)=some P.size:=by rw [hs];exact Zl3
   have hg2:=setRow_heap wr w.heap.size P P _ _ hg
   have HG2:=Lib.hid hg2
   have HB3:=Lib.hid (ZcP P HB.out (Nat.le_refl _))
   clear hg2 hs
   go_wp2_with (first | refine wpList_load_row rfl 257 (.tmp 4) rfl w.heap.size rfl 257 P (0,0) (.array 4 3) hg Tryz.underlying257 rfl hi ?_ | refine wpList_store_row rfl 257 (.tmp 4) (.tmp 32) rfl w.heap.size P rfl rfl 257 P hg hi rfl HP1.out ?_)
   refine bodyPost_ret (v:=.agg P) (results_cell_row rfl _ _ w.heap.size 257 P (0,0) (.array 4 3) rfl HG2.out Tryz.underlying257 rfl hi) rfl ⟨rfl,HB3.out⟩
end Go.Proofs.YtdijhifdjbnkfaaGreat.BL
