import Derived.RangeFuncNested
import Derived.RangeFuncBound
import Derived.Test.YtidhgicajlaafaaGreatZC38
import Derived.Test.YtidhgicajlaafaaGreatZC11
import Derived.Test.YtidhgicajlaafaaGreatZC19
set_option maxRecDepth 100000
set_option maxHeartbeats 8000000
set_option linter.unusedVariables false
set_option linter.unusedSimpArgs false
namespace Go.Proofs.YtidhgicajlaafaaGreat.EV
open Go Go.RowKit Go.Shelf MM EM
open TK (wordsB wordsB_count numT numT_len KRow KIn Tagged tokens_tag)
open RF (Vows Grows)
attribute [local go_sem] Oper.semAt_some
abbrev Item:=Int×List UInt8×Value×List (List UInt8)
abbrev encI (x:Item):Array Value:=#[.int .i64 x.1,.agg #[.string ⟨x.2.1.toArray⟩,x.2.2.1]]
def Vow (x:Item) (W:World):Prop:=(∃ g,x.2.2.1=.slice (some ⟨g,0,none⟩) x.2.2.2.length x.2.2.2.length∧Tagged W g)∧KRow W x.2.2.1 (numT x.2.2.2)∧x.2.1.length≤4096∧x.2.2.2.length≤4096∧(∀ s∈x.2.2.2,s.length≤4096)∧0≤x.1∧x.1≤100000
inductive Tr (fs:List Fld):List Item→Nat→Prop
 | start:Tr fs [] 0
 | next {xs:List Item} {k:Nat} (v:Value) (hk:k<fs.length):Tr fs xs k→Tr fs (xs++[(baseF (fs.take k),fs[k].1,v,wordsB fs[k].2)]) (k+1)
theorem Tr.len {fs:List Fld} {xs:List Item} {k:Nat} (h:Tr fs xs k):xs.length=k∧k≤fs.length:=by
 induction h with
 | start=>simp
 | next v hk h ih=>rw [List.length_append,List.length_singleton];omega
def pairsI (xs:List Item):List (List UInt8×Int):=xs.flatMap fun x=>pairsW x.2.1 x.2.2.2 x.1
theorem pairsI_snoc (xs:List Item) (x:Item):pairsI (xs++[x])=pairsI xs++pairsW x.2.1 x.2.2.2 x.1:=by simp [pairsI]
theorem Tr.told {fs:List Fld} {xs:List Item} {k:Nat} (h:Tr fs xs k):pairsI xs=pairsF 0 (fs.take k):=by
 induction h with
 | start=>simp [pairsI,pairsF]
 | next v hk h ih=>rw [pairsI_snoc,ih,pairsF_next hk]
theorem base_le {fs:List Fld} (hx:∀ f∈fs,f.2.length≤4096):∀ k,k≤fs.length→0≤baseF (fs.take k)∧baseF (fs.take k)≤4160*k
 | 0,_=>by simp [baseF]
 | k+1,h=>by
   have ih:=base_le hx k (by omega)
   have hk:k<fs.length:=by omega
   rw [baseF_next hk]
   have:=wordsB_count fs[k].2
   have:=hx fs[k] (List.getElem_mem hk)
   omega
theorem word_len (l:List UInt8):∀ s∈wordsB l,s.length≤4096:=fun s hs=>by have:=(TK.word_self l s hs).2;omega
theorem iter_in (n:Nat) (hn:1≤n) (l Bn n₀:Nat) (z:Int) (v0:Value) (fs:List Fld) (h16:fs.length≤16) (hnm:∀ f∈fs,f.1.length≤4096) (hx:∀ f∈fs,f.2.length≤4096) (J Jx:List Item→World→Prop) (hJ:Grows J)
  (hY:∀ pre x A,J pre A→Vow x A→pre.length<16→YieldAt Fence.wide (n - 1) Tryz.prog l (encI x) A fun e B =>
   (e=.returned (.bool true)∧J (pre++[x]) B∧Below n₀ A B)∨(e=.returned (.bool false)∧Jx (pre++[x]) B))
  (W:World) (hBn:W.cell? ⟨Bn,1,none⟩=some v0) (hb:RBel fldC n₀ W v0 fs) (hn₀:n₀≤W.heap.size) (h0:J [] W) :
  CallsIn Fence.wide n Tryz.prog 106 #[.func (.yield l) #[] #[],.pointer (some ⟨Bn,0,none⟩)] W fun e B=>(∃ v,e=.returned v) ∧
   ((∃ xs,Tr fs xs fs.length∧J xs B)∨(∃ pre,(∃ k,Tr fs pre k)∧Jx pre B)):=by
 obtain ⟨p0,cap0,rfl,hlc,hcm,_⟩:=hb.shape
 unfold maxLen at hcm
 have HB0:=Lib.hid hb
 have HT0:Hid (Tr fs [] 0):=Lib.hid .start
 have HY:=Lib.hid hY
 have HX:=Lib.hid hx
 have HM:=Lib.hid hnm
 have HZ:Hid (baseF (fs.take 0)=0):=Lib.hid (by simp [baseF])
 clear hb hY hx hnm
 refine callsIn_of_wp Tryz.func106 rfl trivial ?_ rfl
 simp only [Tryz.ntmps106,List.size_toArray,List.length_cons,List.length_nil,Nat.reduceAdd,Nat.reduceSub,Array.replicate_succ,Array.replicate_zero,List.push_toArray,List.append_toArray,List.nil_append,List.cons_append]
 gi_wp2
 gi_loopw [3,10] (fun bv iv wr=>∃ (xs:List Item) (k:Nat) (bs:Int),k≤fs.length∧bv=.int .i64 bs∧iv=.int .i64 k∧Hid (Tr fs xs k)∧Hid (baseF (fs.take k)=bs)∧Hid (RBel fldC n₀ wr (.slice p0 fs.length cap0) fs)∧J xs wr∧n₀≤wr.heap.size) (fun _ iv _=>fs.length - (intOf iv).toNat)
 case atStart=>exact ⟨[],0,0,by omega,rfl,rfl,HT0,HZ,HB0,h0,hn₀⟩
 case round =>
  obtain ⟨xs,k,bs,hk,rfl,rfl,HT,HBS,HR,hJs,hsz⟩:=hrel
  clear HT0 HB0 h0 HZ
  by_cases hlt:k<fs.length
  ·have q1:decide ((k:Int)<(fs.length:Int))=true:=by rw [decide_eq_true_eq];omega
   have q2:decide (k<fs.length)=true:=by rw [decide_eq_true_eq];omega
   obtain ⟨b,off,rfl,hbl,hbn,c1,c2⟩:=fld_at HR.out hlt
   have hxk:=HX.out fs[k] (List.getElem_mem hlt)
   have hmk:=HM.out fs[k] (List.getElem_mem hlt)
   have hnext:=fun v=>Tr.next v hlt HT.out
   have hbase:=base_le HX.out k hk
   rw [HBS.out] at hbase hnext
   have hbn1:=baseF_next hlt
   rw [HBS.out] at hbn1
   have hwl:=word_len fs[k].2
   have hwc:=wordsB_count fs[k].2
   have htok:=fun W=>tokens_tag ⟨fs[k].2.toArray⟩ W (by rw [str_sz];omega)
   simp only [str_list] at htok
   have hlen:=HT.out.len
   generalize fs[k].1=nm at *
   generalize fs[k].2=tx at *
   generalize wordsB tx=ws at *
   have HTK:=Lib.hid htok
   have HN:=Lib.hid hnext
   have HBN:=Lib.hid hbn1
   have HWL:=Lib.hid hwl
   have HLT:=Lib.hid hlt
   clear htok hnext hbn1 hwl hlt HT HBS
   gi_wp2
   refine ⟨trivial,(callsIn_wide.2 (HTK.out _)).mono ?_⟩
   rintro e w2 ⟨gt,rfl,hkr,htg,_,hb2⟩
   have hb3:Below wr.heap.size wr w2:=((Below.refl _ wr).alloc (Nat.le_refl _) _).trans (hb2.mono (by simp))
   have cn:w2.cell? ⟨wr.heap.size,0,none⟩=some (.string ⟨nm.toArray⟩):=(hb2.cell (p:=⟨wr.heap.size,0,none⟩) (by simp)).trans (new_two wr _ _ _).1
   have hw4:ws.length≤4096:=by omega
   have hb0:0≤bs:=hbase.1
   have hb1:bs≤100000:=by omega
   have hl16:xs.length<16:=by omega
   have hg2:wr.grownBy w2 none:=⟨hb3.os,hb3.tape,hb3.output,hb3.size,fun k hk _=>hb3.block k hk⟩
   have hJ2:=hJ xs wr w2 hJs hg2
   have hsz2:n₀≤w2.heap.size:=by have:=hb3.size;omega
   have hR2:=HR.out.below (hb3.mono hsz)
   rw [numT_len] at hkr ⊢
   obtain ⟨fn,tmps,assign,body,hy,hRd⟩:=HY.out xs (bs,nm,.slice (some ⟨gt,0,none⟩) ws.length ws.length,ws) w2 hJ2 ⟨⟨gt,rfl,htg⟩,hkr,hmk,hw4,HWL.out,hb0,hb1⟩ hl16
   dsimp only [encI] at hy
   have HQ:=Lib.hid hR2
   have HT3:=Lib.hid (HN.out (.slice (some ⟨gt,0,none⟩) ws.length ws.length))
   have hw5:(0:Int)≤(ws.length:Int):=Int.natCast_nonneg _
   have hw6:(ws.length:Int)≤4096:=by omega
   clear HTK HN hkr hb2 hb3 hg2 hJs hR2 HR HWL c1 c2
   gi_wp2
   refine hRd.mono ?_
   rintro e w3 (⟨rfl,hJ3,hb3⟩ | ⟨rfl,hJ3⟩)
   ·have HQ3:=Lib.hid (HQ.out.below hb3)
    have hsz3:n₀≤w3.heap.size:=by have:=hb3.size;omega
    have HB2:Hid (baseF (fs.take (k+1))=bs+(64+(ws.length:Int))):=Lib.hid (by rw [HBN.out];omega)
    clear hRd hy HQ
    gi_wp2
    have hlt:=HLT.out
    go_roundw
    case rel=>exact ⟨_,k+1,_,by omega,rfl,by go_num,HT3,HB2,HQ3,hJ3,hsz3⟩
    case measure=>simp [intOf];omega
   ·have HT4:=Lib.hid HT3.out
    clear hRd hy HQ HT3
    gi_wp2
    refine bodyPost_ret (results_none rfl _ _ _) rfl ?_
    exact ⟨⟨_,rfl⟩,.inr ⟨_,⟨_,HT4.out⟩,hJ3⟩⟩
  ·obtain rfl:k=fs.length:=by omega
   have q1:decide ((fs.length:Int)<(fs.length:Int))=false:=by simp
   have q2:decide (fs.length<fs.length)=false:=by simp
   gi_wp2
   go_end0
   exact ⟨⟨_,rfl⟩,.inl ⟨xs,HT.out,hJs⟩⟩
theorem fields_in (n:Nat) (z:Int) (p:Option Addr) (m c:Nat) (W:World) :
  CallsIn Fence.wide n Tryz.prog 84 #[.agg #[.int .i64 z,.slice p m c]] W fun e B=>e=.returned (.func (.func 106) #[] #[.pointer (some ⟨W.heap.size,0,none⟩)])∧B=W.alloc (.cells #[.int .i64 z,.slice p m c] 51):=by
 refine callsIn_of_wp Tryz.func84 rfl trivial ?_ rfl
 simp only [Tryz.ntmps84,List.size_toArray,List.length_cons,List.length_nil,Nat.reduceAdd,Nat.reduceSub,Array.replicate_succ,Array.replicate_zero,List.push_toArray,List.append_toArray,List.nil_append,List.cons_append]
 gi_wp2
 go_ret
 exact ⟨rfl,rfl⟩
theorem fields_vow (n:Nat) (hn:1≤n) (Bn n₀:Nat) (v:Value) (fs:List Fld) (h16:fs.length≤16) (hnm:∀ f∈fs,f.1.length≤4096) (hx:∀ f∈fs,f.2.length≤4096) (w:World) (hBn:Bn<w.heap.size) (hn₀:n₀≤w.heap.size) (hc:w.cell? ⟨Bn,1,none⟩=some v) (hb:RBel fldC n₀ w v fs) :
  Vows Fence.wide n Tryz.prog 106 #[.pointer (some ⟨Bn,0,none⟩)] encI n₀ Vow (fun xs=>Tr fs xs fs.length) (fun pre=>∃ k,Tr fs pre k) 16 w :=
 fun l J Jx W hW hJ _ hY h0=>iter_in n hn l Bn n₀ 0 v fs h16 hnm hx J Jx hJ hY W ((hW.cell (p:=⟨Bn,1,none⟩) hBn).trans hc) (hb.below (hW.mono hn₀)) (by have:=hW.size;omega) h0
end Go.Proofs.YtidhgicajlaafaaGreat.EV
