import Derived.Test.YtdfibahafilklaaGreatDoorZB23
set_option maxRecDepth 100000
set_option maxHeartbeats 8000000
set_option linter.unusedVariables false
set_option linter.unusedSimpArgs false
namespace Go.Proofs.YtdfibahafilklaaGreatDoor.EV
open Go Go.RowKit MM EM
theorem size_any (z:Int) (v:Value) (fs:List Fld) (w:World) (hr:RAny fldC w v fs):Calls Tryz.prog 141 #[.agg #[.int .i64 z,v]] w (IntLeft (sizeW fs) w):=by
 obtain ⟨p,cap,rfl,hlc,hcm,_⟩:=hr.shape
 unfold maxLen at hcm
 have HB:=Lib.hid (box_below w z (.slice p fs.length cap))
 have HR:=Lib.hid hr
 have H0:Hid (sizeW (fs.take 0)=16):=Lib.hid (by simp [sizeW,sizeF,wrap64])
 clear hr
 go_enter Tryz.func141,Tryz.ntmps141
 go_wp2_with fail
 go_loopw [3,9] (fun sv iv wr=>∃ (i:Nat) (s:Int),i≤fs.length∧iv=.int .i64 i∧sv=.int .i64 s∧Hid (sizeW (fs.take i)=s)∧Hid (Below w.heap.size w wr)) (fun _ iv _=>fs.length - (intOf iv).toNat)
 case atStart=>exact ⟨0,16,by omega,rfl,rfl,H0,HB⟩
 case round =>
  obtain ⟨i,s,hi,rfl,rfl,HI,HB1⟩:=hrel
  clear H0 HB
  by_cases hlt:i<fs.length
  ·have q1:decide ((i:Int)<(fs.length:Int))=true:=by rw [decide_eq_true_eq];omega
   have q2:decide (i<fs.length)=true:=by rw [decide_eq_true_eq];omega
   obtain ⟨b,off,rfl,hbl,_,c1,c2⟩:=fld_at (HR.out.below HB1.out) hlt
   have hnext:=sizeW_next hlt
   rw [HI.out,← wrap_add2] at hnext
   generalize fs[i].1=n at *
   generalize fs[i].2=x at *
   have HN:=Lib.hid hnext
   have HLT:=Lib.hid hlt
   have hb3:Below wr.heap.size wr (wr.alloc (.cells #[.string ⟨n.toArray⟩,.string ⟨x.toArray⟩] 84)):=(Below.refl _ wr).alloc (Nat.le_refl _) _
   have HB2:=Lib.hid (HB1.out.trans (hb3.mono HB1.out.size))
   clear hnext HI hlt hb3
   go_wp2_with fail
   have hlt:=HLT.out
   go_roundw
   case rel=>exact ⟨i+1,_,by omega,by go_num,rfl,Lib.hid HN.out.symm,HB2⟩
   case measure=>simp [intOf];omega
  ·obtain rfl:i=fs.length:=by omega
   have q1:decide ((fs.length:Int)<(fs.length:Int))=false:=by simp
   have q2:decide (fs.length<fs.length)=false:=by simp
   have hn:=HI.out
   rw [List.take_length] at hn
   subst hn
   clear HI
   go_wp2_with fail
   go_ret
   exact ⟨rfl,HB1.out⟩
end Go.Proofs.YtdfibahafilklaaGreatDoor.EV
namespace Go.Proofs.YtdfibahafilklaaGreatDoor.EV
open Go Go.RowKit MM EM
theorem rsize_any (z:Int) (v:Value) (fs:List Fld) (w:World) (hr:RAny fldC w v fs):Calls Tryz.prog 139 #[.agg #[.int .i64 z,v]] w (IntLeft (sizeW fs) w):=by
 obtain ⟨p,cap,rfl,hlc,hcm,_⟩:=hr.shape
 unfold maxLen at hcm
 have HB:=Lib.hid (Below.refl (evBox w z (.slice p fs.length cap)).heap.size (evBox w z (.slice p fs.length cap)))
 have HR:=Lib.hid hr
 have H0:Hid (sizeW (fs.take 0)=16):=Lib.hid (by simp [sizeW,sizeF,wrap64])
 clear hr
 go_enter Tryz.func139,Tryz.ntmps139
 go_wp2_with fail
 go_loopw [3,4] (fun sv iv wr=>∃ (i:Nat) (s:Int),i≤fs.length∧iv=.int .i64 i∧sv=.int .i64 s∧Hid (sizeW (fs.take i)=s)∧Hid (Below (evBox w z (.slice p fs.length cap)).heap.size (evBox w z (.slice p fs.length cap)) wr)) (fun _ iv _=>fs.length - (intOf iv).toNat)
 case atStart=>exact ⟨0,16,by omega,rfl,rfl,H0,HB⟩
 case round =>
  obtain ⟨i,s,hi,rfl,rfl,HI,HB1⟩:=hrel
  clear H0 HB
  obtain ⟨_,cb,hbw⟩:=box_in HB1.out
  by_cases hlt:i<fs.length
  ·have q1:decide ((i:Int)<(fs.length:Int))=true:=by rw [decide_eq_true_eq];omega
   have q2:decide (i<fs.length)=true:=by rw [decide_eq_true_eq];omega
   have q3:(i:Int)<cap:=by omega
   have q4:(i:Int)<fs.length:=by omega
   obtain ⟨b,off,rfl,hbl,_,c1,c2⟩:=fld_at (HR.out.below hbw) hlt
   have hnext:=sizeW_next hlt
   rw [HI.out] at hnext
   generalize fs[i].1=n at *
   generalize fs[i].2=x at *
   have hn2:wrap64 (wrap64 (s+(n.length:Int))+(x.length:Int))=sizeW (fs.take (i+1)):=by rw [wrap_add,← hnext];congr 1;omega
   have HN:=Lib.hid hn2
   have HLT:=Lib.hid hlt
   clear hnext HI hbw hn2
   go_wp2_with fail
   go_quiet (fail)
   go_wp2_with fail
   have hlt:=HLT.out
   go_roundw
   case rel=>exact ⟨i+1,_,by omega,by go_num,rfl,Lib.hid HN.out.symm,Lib.hid (MM.below_drewN HB1.out _)⟩
   case measure=>simp [intOf];omega
  ·obtain rfl:i=fs.length:=by omega
   have q1:decide ((fs.length:Int)<(fs.length:Int))=false:=by simp
   have q2:decide (fs.length<fs.length)=false:=by simp
   have hn:=HI.out
   rw [List.take_length] at hn
   subst hn
   have HBW:=Lib.hid hbw
   clear HI hbw
   go_wp2_with fail
   go_ret
   exact ⟨rfl,HBW.out⟩
end Go.Proofs.YtdfibahafilklaaGreatDoor.EV
namespace Go.Proofs.YtdfibahafilklaaGreatDoor.GB
open Go Go.RowKit MM
def Grown (w w':World) (v v':Value):Prop:=w.grownBy w' v.ownBlock∧∀ k,v'.ownBlock=some k→v.ownBlock=some k∨w.heap.size≤k
theorem Grown.trans {a b c:World} {u v x:Value} (h:Grown a b u v) (k:Grown b c v x):Grown a c u x:=by
 obtain ⟨h1,h2⟩:=h
 obtain ⟨k1,k2⟩:=k
 refine ⟨⟨k1.os.trans h1.os,k1.tape.trans h1.tape,k1.output.trans h1.output,Nat.le_trans h1.size k1.size,fun i hi hne => ?_⟩,fun i hi => ?_⟩
 ·rw [k1.block i (Nat.lt_of_lt_of_le hi h1.size) (fun e => ?_),h1.block i hi hne]
  rcases h2 i e.symm with h | h
  ·exact hne h.symm
  ·omega
 ·rcases k2 i hi with h | h
  ·exact h2 i h
  ·exact .inr (Nat.le_trans h1.size h)
theorem Grown.kep {w w':World} {v v':Value} (h:Grown w w' v v'):Kep (fun b=>v.ownBlock≠some b) w w':=kep_grown h.1 fun k hk hne=>hne hk
theorem Grown.of_below {a b c:World} {u v:Value} (h:Below a.heap.size a b) (k:Grown b c u v) (hu:∀ i,u.ownBlock=some i→i<a.heap.size):Grown a c u v :=
 ⟨⟨k.1.os.trans h.os,k.1.tape.trans h.tape,k.1.output.trans h.output,Nat.le_trans h.size k.1.size,fun i hi hne=>by rw [k.1.block i (Nat.lt_of_lt_of_le hi h.size) hne,h.block i hi]⟩,fun i hi=>by
   rcases k.2 i hi with e | e
   ·exact .inl e
   ·exact .inr (Nat.le_trans h.size e)⟩
theorem Grown.below {a b c:World} {u v:Value} (h:Grown a b u v) (k:Below b.heap.size b c):Grown a c u v :=
 ⟨⟨k.os.trans h.1.os,k.tape.trans h.1.tape,k.output.trans h.1.output,Nat.le_trans h.1.size k.size,fun i hi hne=>by rw [k.block i (Nat.lt_of_lt_of_le hi h.1.size),h.1.block i hi hne]⟩,h.2⟩
theorem own_lt {w:World} {v:Value} {l:List UInt8} {B:Nat} (h:OwnB B w v l):∀ i,v.ownBlock=some i→i<w.heap.size:=fun i hi=>(World.ownsRow.lt h i hi).2
theorem OwnB.zero {w:World} {v:Value} {l:List UInt8} {B:Nat} (h:OwnB B w v l):OwnB 0 w v l:=OwnB.weaken h (Nat.zero_le _)
theorem OwnB.from {w:World} {v:Value} {l:List UInt8} {B:Nat} (h:OwnB 0 w v l) (hB:∀ k,v.ownBlock=some k→B≤k):OwnB B w v l:=by
 refine ⟨h.1,?_⟩
 rcases h.2 with h0 | ⟨g,cap,cur,hv,hg,rest⟩
 ·exact .inl h0
 ·exact .inr ⟨g,cap,cur,hv,hB g (by rw [hv];rfl),rest⟩
def AppL (l:List UInt8) (v:Value) (w:World) (e:Ending) (w':World):Prop:=∃ v',e=.returned v'∧OwnB 0 w' v' l∧Grown w w' v v'
theorem wpList_append_grown {w:World} {ops:Array Oper} {rest:List Oper} {o:Oper} {a:Act} {Q:Exit→Act→World→Prop} (hgd:o.guard=none) (s x:Operand)
  (ho:o.op=.call { callee:=.builtin .append,args:=#[s,x],argTypes:=#[31,31] }) (v:Value) (l:List UInt8) (hs:a.eval s=v) (hown:OwnB 0 w v l)
  (src:Value) (m:List UInt8) (hx:a.eval x=src) (hr:BRow w src m) (hm:m≠[]) (hlen:l.length+m.length≤140737488355328)
  (h:∀ v' w',OwnB 0 w' v' (l++m)→Grown w w' v v'→wpList Tryz.prog ops Q rest (a.put o.dst v') w'):wpList Tryz.prog ops Q (o::rest) a w:=by
 obtain ⟨i0,hi,hz0,hz1,hz2⟩:=info_parts infoByte
 have h0:=List.length_pos_iff.2 hm
 obtain ⟨p,cap,rfl,_,_,h3,hc⟩:=hr
 rcases hc with hc | ⟨b,off,rfl,_,hc⟩
 ·have:=byteCells_len m;rw [hc] at this;simp at this;omega
 ·refine wpList_append_lies w hgd s x 31 ho 0 5 i0 (.int .u8 0) 1 1 Tryz.underlying31 hi hz0 hz1 hz2 rfl (by decide) v l.length (Lib.byteCells l) hs hown ⟨b,off,none⟩ (Lib.byteCells m).length cap (Lib.byteCells m) hx (by simp)
   (fun j u hu=>by rw [add_at];exact hc j u hu) (byteCells_one m) (by rw [byteCells_len];omega) (by rw [byteCells_len];unfold maxLen;omega) (by rw [byteCells_len];omega) (Nat.zero_le _) w.heap.size rfl ?_
  intro g cap' w' hown' hgrow hat _
  refine h _ w' ?_ ⟨hgrow,fun k hk => ?_⟩
  ·unfold OwnB
   rw [List.length_append,byteCells_append]
   rw [byteCells_len] at hown' ⊢
   exact hown'
  ·simp only [Value.ownBlock,Option.some.injEq] at hk
   subst hk
   rcases hat with h | h
   ·exact .inl h
   ·exact .inr (Nat.le_of_eq h.symm)
end Go.Proofs.YtdfibahafilklaaGreatDoor.GB
namespace Go.Proofs.YtdfibahafilklaaGreatDoor.EV
open Go Go.RowKit MM EM
def BoolLeft (b:Bool) (w:World) (e:Ending) (w':World):Prop:=e=.returned (.bool b)∧Below w.heap.size w w'
theorem drop_same {α:Type} [DecidableEq α] {a b:List α} {i:Nat} (ha:i<a.length) (hb:i<b.length):decide (a.drop i=b.drop i)=(decide (a[i]=b[i])&&decide (a.drop (i+1)=b.drop (i+1))):=by
 rw [List.drop_eq_getElem_cons ha,List.drop_eq_getElem_cons hb]
 rw [Bool.eq_iff_iff,decide_eq_true_eq,Bool.and_eq_true,decide_eq_true_eq,decide_eq_true_eq,List.cons.injEq]
theorem eq_fld (X1 X2 Y1 Y2:List UInt8) (W:World):(Op.equalIn 10000 84 (.agg #[.string ⟨X1.toArray⟩,.string ⟨X2.toArray⟩]) (.agg #[.string ⟨Y1.toArray⟩,.string ⟨Y2.toArray⟩])).run Tryz.prog W=.ok (decide (X1=Y1)&&decide (X2=Y2)) W:=by
 have s1:=same_list X1 Y1
 have s2:=same_list X2 Y2
 have ht:Tryz.prog.underlying 84=some (.struct (Tryz.prog.fieldsOf 84)):=by kernel_rfl
 have hp:Tryz.prog.stoodInHeld 84=false:=by kernel_rfl
 have hf:(Tryz.prog.fieldsOf 84).toList.map (fun f=>(f.name == "_", f.type,f.offset))=[(false,9,0),(false,9,1)]:=by kernel_rfl
 rw [show (10000:Nat)=9998+1+1 from rfl,run_equalIn_struct W _ _ _ _ ht hp]
 generalize (Tryz.prog.fieldsOf 84).toList=fs at hf
 obtain ⟨f0,f1,rfl⟩:∃ a b,fs=[a,b]:=by
  have hl:=congrArg List.length hf
  rw [List.length_map] at hl
  match fs,hl with
  | [a,b],_=>exact ⟨a,b,rfl⟩
 simp only [List.map_cons,List.map_nil,List.cons.injEq,Prod.mk.injEq,and_true] at hf
 obtain ⟨⟨n0,t0,o0⟩,⟨n1,t1,o1⟩⟩:=hf
 have n0:f0.name ≠ "_" := by simpa using n0
 have n1:f1.name ≠ "_" := by simpa using n1
 have a9:=Tryz.isAgg9
 have z9:=Tryz.sizeOf9
 have u9:=Tryz.underlying9
 simp only [Op.eqFields,n0,n1,t0,t1,o0,o1,ne_eq,not_false_eq_true,if_true]
 go_simp
 by_cases h1:X1=Y1<;>by_cases h2:X2=Y2<;>simp [s1,s2,h1,h2]
theorem two_boxes (w:World) (z1 z2:Int) (u v:Value):Below w.heap.size w (evBox (evBox w z1 u) z2 v):=(box_below w z1 u).trans ((box_below _ z2 v).mono (by rw [box_size];omega))
theorem boxes_in {w wr:World} {z1 z2:Int} {u v:Value} (h:Below (evBox (evBox w z1 u) z2 v).heap.size (evBox (evBox w z1 u) z2 v) wr) :
  wr.cell? ⟨w.heap.size,0,none⟩=some (.int .i64 z1)∧wr.cell? ⟨w.heap.size,1,none⟩=some u∧wr.cell? ⟨w.heap.size+1,0,none⟩=some (.int .i64 z2)∧wr.cell? ⟨w.heap.size+1,1,none⟩=some v∧Below w.heap.size w wr:=by
 obtain ⟨h1,h2,h3⟩:=box_in h
 rw [box_size] at h1 h2
 have h4:=box_in (w:=w) (z:=z1) (v:=u) (wr:=wr) (by rw [box_size] at h3 ⊢;exact h3)
 exact ⟨h4.1,h4.2.1,h1,h2,h4.2.2⟩
theorem ev_same (z1 z2:Int) (xs ys:List Fld):decide ((z1,xs)=(z2,ys))=((z1 == z2)&&decide (xs=ys)):=by
 rw [Bool.eq_iff_iff]
 simp
theorem rsame_any (z1 z2:Int) (u v:Value) (xs ys:List Fld) (w:World) (hu:RAny fldC w u xs) (hv:RAny fldC w v ys):Calls Tryz.prog 99 #[.agg #[.int .i64 z1,u],.agg #[.int .i64 z2,v]] w (BoolLeft (decide ((z1,xs)=(z2,ys))) w):=by
 have HB:=Lib.hid (two_boxes w z1 z2 u v)
 rw [ev_same]
 obtain ⟨p1,cap1,rfl,hl1,hm1,_⟩:=hu.shape
 obtain ⟨p2,cap2,rfl,hl2,hm2,_⟩:=hv.shape
 unfold maxLen at hm1 hm2
 by_cases h:z1=z2
 ·have t1:(z1 != z2)=false:=by simp [h]
  have e1:(z1 == z2)=true:=by simp [h]
  rw [e1,Bool.true_and]
  by_cases hn:xs.length=ys.length
  ·have t0:(((xs.length:Int)) != ((ys.length:Int)))=false:=by simp [hn]
   obtain ⟨n,hnn⟩:∃ n,xs.length=n:=⟨_,rfl⟩
   have hnb:ys.length=n:=by omega
   obtain ⟨RES,hRES⟩:∃ RES,decide (xs=ys)=RES:=⟨_,rfl⟩
   have h0:decide (xs.drop 0=ys.drop 0)=RES:=hRES
   rw [hRES]
   have H0:=Lib.hid h0
   have HU:=Lib.hid hu
   have HV:=Lib.hid hv
   have HNA:=Lib.hid hnn
   have HNB:=Lib.hid hnb
   rw [hnn,hnb] at t0
   rw [hnn] at hl1 HB ⊢
   rw [hnb] at hl2 HB ⊢
   have HBB:=Lib.hid (Below.refl (evBox (evBox w z1 (.slice p1 n cap1)) z2 (.slice p2 n cap2)).heap.size (evBox (evBox w z1 (.slice p1 n cap1)) z2 (.slice p2 n cap2)))
   clear h0 hu hv hRES hn hnn hnb h e1
   go_enter Tryz.func99,Tryz.ntmps99
   go_wp2_with fail
   go_loopw [5] (fun iv wr=>∃ i:Nat,i≤n∧iv=.int .i64 i∧Hid (decide (xs.drop i=ys.drop i)=RES)∧Hid (Below (evBox (evBox w z1 (.slice p1 n cap1)) z2 (.slice p2 n cap2)).heap.size (evBox (evBox w z1 (.slice p1 n cap1)) z2 (.slice p2 n cap2)) wr)) (fun iv _=>n - (intOf iv).toNat)
   case atStart=>exact ⟨0,by omega,rfl,H0,HBB⟩
   case round =>
    obtain ⟨i,hi,rfl,HI,HB1⟩:=hrel
    clear H0 HBB
    obtain ⟨_,k1,_,k2,hbw⟩:=boxes_in HB1.out
    by_cases hlt:i<n
    ·have q1:decide ((i:Int)<(n:Int))=true:=by rw [decide_eq_true_eq];omega
     have q2:decide (i<n)=true:=by rw [decide_eq_true_eq];omega
     have q3:(i:Int)<n:=by omega
     have ha:i<xs.length:=by rw [HNA.out];exact hlt
     have hb:i<ys.length:=by rw [HNB.out];exact hlt
     have hu1:=HU.out.below hbw
     have hv1:=HV.out.below hbw
     rw [HNA.out] at hu1
     rw [HNB.out] at hv1
     obtain ⟨b1,o1,rfl,hb1,_,c1,c2⟩:=fld_at hu1 ha
     obtain ⟨b2,o2,rfl,hb2,_,c3,c4⟩:=fld_at hv1 hb
     have hnx:=HI.out
     rw [drop_same ha hb] at hnx
     generalize xs[i]=X at *
     generalize ys[i]=Y at *
     have heq:=eq_fld X.1 X.2 Y.1 Y.2
     have hd:decide (X=Y)=(decide (X.1=Y.1)&&decide (X.2=Y.2)):=by
      rw [Bool.eq_iff_iff,decide_eq_true_eq,Bool.and_eq_true,decide_eq_true_eq,decide_eq_true_eq]
      exact Prod.ext_iff
     rw [hd] at hnx
     obtain ⟨X1,X2⟩:=X
     obtain ⟨Y1,Y2⟩:=Y
     dsimp only at *
     generalize decide (X1=Y1)=d1 at *
     generalize decide (X2=Y2)=d2 at *
     have HN:=Lib.hid hnx
     have HLT:=Lib.hid hlt
     have HBW:=Lib.hid hbw
     clear hnx hd hlt hu1 hv1 ha hb HI hbw
     cases d1<;>cases d2
     case true.true =>
      have hn:=HN.out
      rw [Bool.true_and,Bool.true_and] at hn
      have HN2:=Lib.hid hn
      clear HN hn
      go_wp2_with fail
      go_quiet (fail)
      go_wp2_with fail
      have hlt:=HLT.out
      go_roundw
      case rel=>exact ⟨i+1,by omega,by go_num,HN2,Lib.hid (MM.below_drewN HB1.out _)⟩
      case measure=>simp [intOf];omega
     all_goals
      have hn:=HN.out
      simp only [Bool.false_and,Bool.and_false] at hn
      subst hn
      clear HN
      go_wp2_with fail
      go_quiet (fail)
      go_wp2_with fail
      go_ret
      exact ⟨rfl,MM.below_drewN HBW.out _⟩
    ·obtain rfl:i=n:=by omega
     have q1:decide ((i:Int)<(i:Int))=false:=by simp
     have q2:decide (i<i)=false:=by simp
     have hf:RES=true:=by
      rw [← HI.out,List.drop_of_length_le (by rw [HNA.out];exact Nat.le_refl _),List.drop_of_length_le (by rw [HNB.out];exact Nat.le_refl _)]
      simp
     subst hf
     have HBW:=Lib.hid hbw
     clear HI hbw
     go_wp2_with fail
     go_ret
     exact ⟨rfl,HBW.out⟩
  ·have t0:(((xs.length:Int)) != ((ys.length:Int)))=true:=by simp;omega
   have e:decide (xs=ys)=false:=decide_eq_false fun h=>hn (by rw [h])
   rw [e]
   clear hu hv e hn h e1
   go_enter Tryz.func99,Tryz.ntmps99
   go_wp2_with fail
   go_ret
   exact ⟨rfl,HB.out⟩
 ·have t1:(z1 != z2)=true:=by simp [h]
  have e1:(z1 == z2)=false:=by simp [h]
  rw [e1,Bool.false_and]
  clear h hu hv e1
  go_enter Tryz.func99,Tryz.ntmps99
  go_wp2_with fail
  go_ret
  exact ⟨rfl,HB.out⟩
end Go.Proofs.YtdfibahafilklaaGreatDoor.EV
