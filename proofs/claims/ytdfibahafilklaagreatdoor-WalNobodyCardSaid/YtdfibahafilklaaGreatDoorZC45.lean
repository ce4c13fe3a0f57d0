import Derived.RangeFuncNested
import Derived.Test.YtdfibahafilklaaGreatDoorZC44
import Derived.Test.YtdfibahafilklaaGreatDoorZC27
import Derived.Test.YtdfibahafilklaaGreatDoorZC28
set_option maxRecDepth 100000
set_option maxHeartbeats 8000000
set_option linter.unusedVariables false
set_option linter.unusedSimpArgs false
namespace Go.Proofs.YtdfibahafilklaaGreatDoor.WL
open Go Go.RowKit Go.Shelf Go.Maps MM WM DK
open RF (VowsT GrowsT FreeT TagT Steady grows_below boxed_kep)
attribute [local go_sem] Oper.semAt_some
theorem owns_mono {w:World} {B C:Nat} {e:TypeId} {v:Value} {n:Nat} {xs:List Value} (h:w.ownsRow B e 1 v n xs) (hC:C≤B):w.ownsRow C e 1 v n xs:=by
 refine ⟨h.1,?_⟩
 rcases h.2 with h0 | ⟨g,cap,cur,hv,hg,rest⟩
 ·exact .inl h0
 ·exact .inr ⟨g,cap,cur,hv,Nat.le_trans hC hg,rest⟩
def NamesOwn (D:Nat) (W:World) (v:Value) (ns:List (List UInt8)):Prop:=∃ n,W.ownsRow D 9 1 v n (ns.map encStr)
theorem NamesOwn.sin {D:Nat} {W:World} {v:Value} {ns:List (List UInt8)} (h:NamesOwn D W v ns):SIn W.heap.size W v ns:=by
 obtain ⟨n,h⟩:=h
 exact sin_of_own h
theorem NamesOwn.keep {D:Nat} {T:Nat→Prop} {W W':World} {v:Value} {ns:List (List UInt8)} (h:NamesOwn D W v ns) (hk:Kep T W W') (hT:∀ b cur fr,D≤b→W.heap[b]? = some (.cells cur 9 fr)→T b):NamesOwn D W' v ns:=by
 obtain ⟨n,h⟩:=h
 refine ⟨n,own_row_kep h hk fun g hg => ?_⟩
 have h1:=own_cells h hg
 obtain ⟨cur,fr,hc⟩:=h1.2
 exact hT g cur fr h1.1 hc
theorem list_own {S:Nat→Prop} {w:World} {g mb:Nat} {V:List UInt8→Value} {c:Int} {d:DiskD} (h:CObj S w g mb V c d) (hF:Fits d) :
  Calls Tryz.prog 78 #[.pointer (some ⟨g,0,none⟩)] w fun e w'=>∃ v,e=.returned v∧NamesOwn w.heap.size w' v (namesW d)∧Below w.heap.size w w':=by
 have h3:=h.g3
 have HN:=Lib.hid (names_own S g mb V c d w h hF)
 clear h hF
 unfold namesW
 generalize d.L.map (·.name)=ns at *
 generalize d.stopped=st at *
 cases st with
 | true =>
   have HF:=Lib.hid (show ∃ v,Ending.returned (.slice none 0 0)=.returned v∧NamesOwn w.heap.size w v (if true=true then [] else ns)∧Below w.heap.size w w from ⟨_,rfl,⟨0,World.ownsRow_nil _ _ _ _⟩,Below.refl _ _⟩)
   clear HN
   go_enter Tryz.func78,Tryz.ntmps78
   go_wp2_with fail
   go_ret
   exact HF.out
 | false =>
   go_enter Tryz.func78,Tryz.ntmps78
   go_wp2_with fail
   refine HN.out.mono ?_
   rintro e w1 ⟨v,B,n,rfl,hB,hs,hb⟩
   have HF:=Lib.hid (show ∃ u,Ending.returned v=.returned u∧NamesOwn w.heap.size w1 u (if false=true then [] else ns)∧Below w.heap.size w w1 from ⟨_,rfl,⟨n,owns_mono hs hB⟩,hb⟩)
   clear hs hb
   go_wp2_with fail
   go_ret
   exact HF.out
theorem names_few {d:DiskD} (hF:Fits d):(namesW d).length≤1024∧∀ s∈namesW d,s.length≤64:=by
 unfold namesW
 split
 ·exact ⟨Nat.zero_le _,fun s hs=>by cases hs⟩
 ·refine ⟨by rw [List.length_map];exact hF.len,fun s hs => ?_⟩
  obtain ⟨f,hf,rfl⟩:=List.mem_map.1 hs
  exact hF.name f hf
theorem logs_next {ns:List (List UInt8)} {k:Nat} (hk:k<ns.length):logsL (ns.take (k+1))=logsL (ns.take k)++(numberW ns[k]).toList:=by
 rw [List.take_succ_eq_append_getElem hk]
 unfold logsL
 rw [List.filterMap_append]
 cases h:numberW ns[k]<;>simp [h]
theorem logs_le (ns:List (List UInt8)):(logsL ns).length≤ns.length:=List.length_filterMap_le _ _
theorem logs_take (ns:List (List UInt8)) (k:Nat):∃ j,logsL (ns.take k)=(logsL ns).take j:=by
 refine ⟨(logsL (ns.take k)).length,?_⟩
 have e:logsL ns=logsL (ns.take k)++logsL (ns.drop k):=by
  unfold logsL
  rw [← List.filterMap_append,List.take_append_drop]
 rw [e,List.take_left]
abbrev encL (n:Nat):Array Value:=#[.int .i64 (n:Int),.string ⟨(nameW n).toArray⟩]
def TabT (T:Nat→Prop):Prop:=T 2∧T 0∧T 1
theorem TabsW.tag {T:Nat→Prop} {D:Nat} {et:TypeId} {A B:World} (h:TabsW A) (hT:TabT T) (hk:Kep (TagT T D et A) A B):TabsW B:=h.keep hk (.inl hT.1) (.inl hT.2.1) (.inl hT.2.2)
theorem files_in (n:Nat) (hn:1≤n) (y bx g D:Nat) (T:Nat→Prop) (et er:TypeId) (het:et≠9) (hTT:TabT T) {S:Nat→Prop} {mb:Nat} {V:List UInt8→Value} {c:Int} {d:DiskD} (hF:Fits d) (J Jx:List Nat→World→Prop) (hJ:GrowsT D er J)
  (hY:∀ pre x A,J pre A→x∈logsW d→pre.length<1025→YieldAt Fence.wide (n - 1) Tryz.prog y (encL x) A fun e B =>
   (e=.returned (.bool true)∧J (pre++[x]) B∧Kep (TagT T D et A) A B)∨(e=.returned (.bool false)∧Jx (pre++[x]) B))
  (W:World) (hD:D≤W.heap.size) (ho:CObj S W g mb V c d) (htab:TabsW W) (hbx:W.cell? ⟨bx,0,none⟩=some (.pointer (some ⟨g,0,none⟩))) (h0:J [] W) :
  CallsIn Fence.wide n Tryz.prog 108 #[.func (.yield y) #[] #[],.pointer (some ⟨bx,0,none⟩)] W fun e B=>(∃ v,e=.returned v) ∧
   ((∃ xs,xs=logsW d∧J xs B)∨(∃ pre,(∃ k,pre=(logsW d).take k)∧Jx pre B)):=by
 have HL:=Lib.hid (list_own ho hF)
 obtain ⟨hfew,hlen⟩:=names_few hF
 have hmem:∀ s∈namesW d,∀ k,numberW s=some k→k∈logsW d:=fun s hs k hk=>by
  unfold logsW logsL
  exact List.mem_filterMap.2 ⟨s,hs,hk⟩
 have hlg:logsW d=logsL (namesW d):=rfl
 rw [hlg] at hmem hY ⊢
 obtain ⟨ns,hns⟩:∃ ns,namesW d=ns:=⟨_,rfl⟩
 rw [hns] at HL hfew hlen hmem hY ⊢
 have HJ:=Lib.hid hJ
 have HY:=Lib.hid hY
 have HM:=Lib.hid hmem
 have HLN:=Lib.hid hlen
 have HT:=Lib.hid htab
 have H0:=Lib.hid h0
 have HTT:=Lib.hid hTT
 have HET:=Lib.hid het
 clear hJ hY hmem hlen htab h0 hTT het hlg hns ho hF
 refine callsIn_of_wp Tryz.func108 rfl trivial ?_ rfl
 simp only [Tryz.ntmps108,List.size_toArray,List.length_cons,List.length_nil,Nat.reduceAdd,Nat.reduceSub,Array.replicate_succ,Array.replicate_zero,List.push_toArray,List.append_toArray,List.nil_append,List.cons_append]
 gi_wp2
 refine ⟨trivial,(callsIn_wide.2 HL.out).mono ?_⟩
 rintro e w1 ⟨v,rfl,hr,hb1⟩
 obtain ⟨pv,cv,hvs,_⟩:=hr.sin.shape
 subst hvs
 have HR1:Hid (NamesOwn D w1 (.slice pv ns.length cv) ns):=Lib.hid (by obtain ⟨k,hr⟩:=hr;exact ⟨k,owns_mono hr hD⟩)
 have HJ1:=Lib.hid (grows_below HJ.out H0.out hb1)
 have HT1:=Lib.hid (HT.out.below hb1)
 clear hr hb1 HL HT H0
 gi_wp2
 gi_loopw [10] (fun iv wr=>∃ i:Nat,iv=.int .i64 i∧i≤ns.length∧Hid (NamesOwn D wr (.slice pv ns.length cv) ns)∧Hid (TabsW wr)∧Hid (J (logsL (ns.take i)) wr)) (fun iv _=>ns.length - (intOf iv).toNat)
 case atStart=>exact ⟨0,rfl,by omega,HR1,HT1,HJ1⟩
 case round =>
  obtain ⟨i,rfl,hi,HR,HT,HJX⟩:=hrel
  clear HR1 HT1 HJ1
  by_cases hlt:i<ns.length
  ·have t1:decide ((i:Int)<(ns.length:Int))=true:=by rw [decide_eq_true_eq];omega
   have t2:decide (i<ns.length)=true:=decide_eq_true hlt
   have t3:(i:Int)<(ns.length:Int):=by omega
   obtain ⟨b,off,hpv,c0⟩:=HR.out.sin.at_ (List.getElem?_eq_getElem hlt)
   subst hpv
   have hnx:=logs_next hlt
   have hmem:=HM.out ns[i] (List.getElem_mem hlt)
   have hsl:=HLN.out ns[i] (List.getElem_mem hlt)
   have hle:=logs_le (ns.take i)
   rw [List.length_take] at hle
   obtain ⟨s,hs⟩:∃ s,ns[i]=s:=⟨_,rfl⟩
   rw [hs] at c0 hnx hmem hsl
   have HN:=Lib.hid (number_any s wr (by omega) HT.out)
   have hnm:∀ k,numberW s=some k→nameW k=s:=fun k hk=>(name_number hk).1
   unfold NumLeft numT at HN
   obtain ⟨o,hO⟩:∃ o,numberW s=o:=⟨_,rfl⟩
   rw [hO] at hnx hmem HN hnm
   have HNX:=Lib.hid hnx
   have HMM:=Lib.hid hmem
   have HNM:=Lib.hid hnm
   have HLT:=Lib.hid hlt
   have HLE:Hid ((logsL (ns.take i)).length<1025):=Lib.hid (by omega)
   clear hs hO hnx hmem hnm hlt hle
   gi_wp2
   refine ⟨trivial,(callsIn_wide.2 HN.out).mono ?_⟩
   rintro e w2 ⟨rfl,hb2⟩
   have HR2:=Lib.hid (HR.out.keep (kep_below (fun _=>True) hb2) fun _ _ _ _ _=>trivial)
   have HT2:=Lib.hid (HT.out.below hb2)
   have HJ2:=Lib.hid (grows_below HJ.out HJX.out hb2)
   clear hb2 HN HR HT HJX c0
   cases o with
   | none =>
     rw [show ((none:Option Nat).toList)=[] from rfl,List.append_nil] at HNX
     gi_wp2
     refine ⟨fun f h=>(by cases h),?_⟩
     gi_wp2
     have hlt:=HLT.out
     go_roundw
     case rel=>exact ⟨i+1,by go_num,by omega,HR2,HT2,by rw [HNX.out];exact HJ2⟩
     case measure=>simp [intOf];omega
   | some k =>
     obtain rfl:=HNM.out k rfl
     obtain ⟨fn,tmps,assign,body,hy,hRd⟩:=HY.out (logsL (ns.take i)) k w2 HJ2.out (HMM.out k rfl) HLE.out
     have hnx:logsL (ns.take (i+1))=logsL (ns.take i)++[k]:=HNX.out
     have HNX2:=Lib.hid hnx
     dsimp only [encL] at hy
     have HRd:=Lib.hid hRd
     clear hRd HNX HMM HNM hnx HLE
     gi_wp2
     refine HRd.out.mono ?_
     rintro e w5 (⟨rfl,hJ5,hb5⟩ | ⟨rfl,hJ5⟩)
     ·have HJ5:Hid (J (logsL (ns.take (i+1))) w5):=Lib.hid (by rw [HNX2.out];exact hJ5)
      have HR5:=Lib.hid (HR2.out.keep hb5 fun b cur fr hb hc=>.inr ⟨hb,cur,_,fr,hc,fun e=>HET.out e.symm⟩)
      have HT5:=Lib.hid (HT2.out.tag HTT.out hb5)
      clear hJ5 hb5 HRd hy HR2 HT2 HJ2
      gi_wp2
      have hlt:=HLT.out
      go_roundw
      case rel=>exact ⟨i+1,by go_num,by omega,HR5,HT5,HJ5⟩
      case measure=>simp [intOf];omega
     ·have HJ5:=Lib.hid hJ5
      clear hJ5 HRd hy HR2 HT2 HJ2
      gi_wp2
      refine bodyPost_ret (results_none rfl _ _ _) rfl ?_
      refine ⟨⟨_,rfl⟩,.inr ⟨_,?_,HJ5.out⟩⟩
      rw [← HNX2.out]
      exact logs_take ns (i+1)
  ·obtain rfl:i=ns.length:=by omega
   have t1:decide ((ns.length:Int)<(ns.length:Int))=false:=by simp
   have t2:decide (ns.length<ns.length)=false:=by simp
   have hj:=HJX.out
   rw [List.take_length] at hj
   have HQ:=Lib.hid hj
   clear hlt hj HR HT HJX
   gi_wp2
   go_end0
   exact ⟨⟨_,rfl⟩,.inl ⟨_,rfl,HQ.out⟩⟩
theorem files_vow (n:Nat) (hn:1≤n) (bx g D:Nat) (T:Nat→Prop) (et er:TypeId) (het:et≠9) (hTT:TabT T) {S:Nat→Prop} {mb:Nat} {V:List UInt8→Value} {c:Int} {d:DiskD} (hF:Fits d) (w:World) (ho:CObj S w g mb V c d) (htab:TabsW w)
  (hbx:w.cell? ⟨bx,0,none⟩=some (.pointer (some ⟨g,0,none⟩))) (hbw:bx<w.heap.size) :
  VowsT Fence.wide n Tryz.prog 108 #[.pointer (some ⟨bx,0,none⟩)] encL T D et er (fun x _=>x∈logsW d) (fun xs=>xs=logsW d) (fun pre=>∃ k,pre=(logsW d).take k) 1025 w :=
 fun y J Jx W hW hD hJ _ hY h0=>files_in n hn y bx g D T et er het hTT hF J Jx hJ hY W hD (ho.below hW) (htab.below hW) ((hW.cell (p:=⟨bx,0,none⟩) hbw).trans hbx) h0
def FilesLeft (v:Value) (w:World) (e:Ending) (w':World):Prop:=e=.returned (.func (.func 108) #[] #[.pointer (some ⟨w.heap.size,0,none⟩)])∧w'=w.alloc (.cells #[v] 40)
theorem files_any (p:Option Addr) (w:World):Calls Tryz.prog 59 #[.pointer p] w (FilesLeft (.pointer p) w):=by
 go_enter Tryz.func59,Tryz.ntmps59
 go_wp2_with fail
 go_ret
 exact ⟨rfl,rfl⟩
end Go.Proofs.YtdfibahafilklaaGreatDoor.WL
