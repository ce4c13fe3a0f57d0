import Derived.Shelf.SlIterI.Nil
import Derived.Test.YtidhgicajlaafaaGreatZD47
set_option maxRecDepth 100000
set_option maxHeartbeats 8000000
set_option linter.unusedVariables false
set_option linter.unusedSimpArgs false
namespace Go.Proofs
open Go.Shelf
def Tryz.keys55_ren:Go.Shelf.Ren:=⟨fun | 7=>55 | 10=>72 | n=>n,fun | 23=>98 | 26=>3 | 3=>73 | 28=>102 | 0=>0 | 27=>101 | 33=>122 | 4=>4 | n=>n,fun | n=>n⟩
theorem Tryz.keys55:Go.Proofs.SlLaysZI.n7 Tryz.prog Tryz.keys55_ren:={
 mixed:=by kernel_rfl
 f7:=⟨Tryz.f55.name,by decide,Tryz.func55.trans (congrArg some (by kernel_rfl))⟩
 f10:=⟨Tryz.f72.name,by decide,Tryz.func72.trans (congrArg some (by kernel_rfl))⟩
 t0:=Tryz.underlying0
 a0:=Tryz.isAgg0
 z0:=Tryz.sizeOf0
 v0:=Tryz.zeroValue0
 t4:=Tryz.underlying4
 a4:=Tryz.isAgg4
 z4:=Tryz.sizeOf4
 v4:=Tryz.zeroValue4
 t23:=Tryz.underlying98
 a23:=Tryz.isAgg98
 z23:=Tryz.sizeOf98
 v23:=Tryz.zeroValue98
 t26:=Tryz.underlying3
 a26:=Tryz.isAgg3
 z26:=Tryz.sizeOf3
 v26:=Tryz.zeroValue3
 t27:=Tryz.underlying101
 a27:=Tryz.isAgg101
 z27:=Tryz.sizeOf101
 v27:=Tryz.zeroValue101
 t28:=Tryz.underlying102
 a28:=Tryz.isAgg102
 z28:=Tryz.sizeOf102
 v28:=Tryz.zeroValue102
 t33:=Tryz.underlying122
 a33:=Tryz.isAgg122
 z33:=Tryz.sizeOf122
 v33:=Tryz.zeroValue122 }
def Tryz.sorted54_ren:Go.Shelf.Ren:=⟨fun | 6=>54 | 8=>71 | 9=>56 | 11=>88 | 13=>74 | 12=>73 | 23=>98 | 24=>99 | 14=>89 | 15=>90 | 16=>91 | 17=>92 | 18=>93 | 19=>94 | 20=>95 | 21=>96 | 22=>97 | 25=>110 | 26=>111 | 27=>112 | 28=>113 | 29=>114 | 30=>115 | 31=>138 | n=>n,fun | 26=>3 | 28=>102 | 24=>73 | 0=>0 | 3=>3 | 37=>125 | 48=>150 | 50=>152 | 4=>4 | 40=>142 | 39=>141 | 45=>147 | 5=>5 | 9=>9 | 51=>159 | 55=>163 | 57=>181 | 58=>64 | 33=>122 | n=>n,fun | n=>n⟩
theorem Tryz.sorted54:Go.Proofs.SlLaysZI.n6 Tryz.prog Tryz.sorted54_ren:={
 mixed:=by kernel_rfl
 f6:=⟨Tryz.f54.name,by decide,Tryz.func54.trans (congrArg some (by kernel_rfl))⟩
 f8:=⟨Tryz.f71.name,by decide,Tryz.func71.trans (congrArg some (by kernel_rfl))⟩
 f11:=⟨Tryz.f88.name,by decide,Tryz.func88.trans (congrArg some (by kernel_rfl))⟩
 t0:=Tryz.underlying0
 a0:=Tryz.isAgg0
 z0:=Tryz.sizeOf0
 v0:=Tryz.zeroValue0
 t24:=Tryz.underlying73
 a24:=Tryz.isAgg73
 z24:=Tryz.sizeOf73
 v24:=Tryz.zeroValue73
 t26:=Tryz.underlying3
 a26:=Tryz.isAgg3
 z26:=Tryz.sizeOf3
 v26:=Tryz.zeroValue3
 t28:=Tryz.underlying102
 a28:=Tryz.isAgg102
 z28:=Tryz.sizeOf102
 v28:=Tryz.zeroValue102
 i26:=by kernel_rfl }
def Tryz.sort56_ren:Go.Shelf.Ren:=⟨fun | 5=>56 | 8=>74 | 7=>73 | 19=>98 | 20=>99 | 10=>89 | 11=>90 | 12=>91 | 13=>92 | 14=>93 | 15=>94 | 16=>95 | 17=>96 | 18=>97 | 30=>110 | 31=>111 | 32=>112 | 33=>113 | 34=>114 | 35=>115 | 40=>138 | n=>n,fun | 23=>73 | 25=>3 | 3=>3 | 32=>125 | 22=>73 | 0=>0 | 44=>150 | 46=>152 | 4=>4 | 36=>142 | 35=>141 | 41=>147 | 5=>5 | 9=>9 | 53=>159 | 57=>163 | 63=>181 | 64=>64 | n=>n,fun | n=>n⟩
theorem Tryz.sort56:Go.Proofs.SlLaysM.n5 Tryz.prog Tryz.sort56_ren:={
 mixed:=by kernel_rfl
 f5:=⟨Tryz.f56.name,by decide,Tryz.func56.trans (congrArg some (by kernel_rfl))⟩
 f7:=⟨Tryz.f73.name,by decide,Tryz.func73.trans (congrArg some (by kernel_rfl))⟩
 f8:=Tryz.func74.trans (congrArg some (by kernel_rfl))
 f10:=⟨Tryz.f89.name,by decide,Tryz.func89.trans (congrArg some (by kernel_rfl))⟩
 f11:=⟨Tryz.f90.name,by decide,Tryz.func90.trans (congrArg some (by kernel_rfl))⟩
 f12:=⟨Tryz.f91.name,by decide,Tryz.func91.trans (congrArg some (by kernel_rfl))⟩
 f13:=⟨Tryz.f92.name,by decide,Tryz.func92.trans (congrArg some (by kernel_rfl))⟩
 f14:=⟨Tryz.f93.name,by decide,Tryz.func93.trans (congrArg some (by kernel_rfl))⟩
 f15:=⟨Tryz.f94.name,by decide,Tryz.func94.trans (congrArg some (by kernel_rfl))⟩
 f16:=⟨Tryz.f95.name,by decide,Tryz.func95.trans (congrArg some (by kernel_rfl))⟩
 f17:=⟨Tryz.f96.name,by decide,Tryz.func96.trans (congrArg some (by kernel_rfl))⟩
 f18:=⟨Tryz.f97.name,by decide,Tryz.func97.trans (congrArg some (by kernel_rfl))⟩
 f19:=Tryz.func98.trans (congrArg some (by kernel_rfl))
 f20:=Tryz.func99.trans (congrArg some (by kernel_rfl))
 f30:=⟨Tryz.f110.name,by decide,Tryz.func110.trans (congrArg some (by kernel_rfl))⟩
 f31:=Tryz.func111.trans (congrArg some (by kernel_rfl))
 f32:=Tryz.func112.trans (congrArg some (by kernel_rfl))
 f33:=⟨Tryz.f113.name,by decide,Tryz.func113.trans (congrArg some (by kernel_rfl))⟩
 f34:=⟨Tryz.f114.name,by decide,Tryz.func114.trans (congrArg some (by kernel_rfl))⟩
 f35:=⟨Tryz.f115.name,by decide,Tryz.func115.trans (congrArg some (by kernel_rfl))⟩
 f40:=⟨Tryz.f138.name,by decide,Tryz.func138.trans (congrArg some (by kernel_rfl))⟩
 t0:=Tryz.underlying0
 a0:=Tryz.isAgg0
 z0:=Tryz.sizeOf0
 v0:=Tryz.zeroValue0
 t3:=Tryz.underlying3
 a3:=Tryz.isAgg3
 z3:=Tryz.sizeOf3
 v3:=Tryz.zeroValue3
 t4:=Tryz.underlying4
 a4:=Tryz.isAgg4
 z4:=Tryz.sizeOf4
 v4:=Tryz.zeroValue4
 t5:=Tryz.underlying5
 a5:=Tryz.isAgg5
 z5:=Tryz.sizeOf5
 v5:=Tryz.zeroValue5
 t9:=Tryz.underlying9
 a9:=Tryz.isAgg9
 z9:=Tryz.sizeOf9
 v9:=Tryz.zeroValue9
 t22:=Tryz.underlying73
 a22:=Tryz.isAgg73
 z22:=Tryz.sizeOf73
 v22:=Tryz.zeroValue73
 t23:=Tryz.underlying73
 a23:=Tryz.isAgg73
 z23:=Tryz.sizeOf73
 v23:=Tryz.zeroValue73
 t25:=Tryz.underlying3
 a25:=Tryz.isAgg3
 z25:=Tryz.sizeOf3
 v25:=Tryz.zeroValue3
 t32:=Tryz.underlying125
 a32:=Tryz.isAgg125
 z32:=Tryz.sizeOf125
 v32:=Tryz.zeroValue125
 t35:=Tryz.underlying141
 a35:=Tryz.isAgg141
 z35:=Tryz.sizeOf141
 v35:=Tryz.zeroValue141
 t36:=Tryz.underlying142
 a36:=Tryz.isAgg142
 z36:=Tryz.sizeOf142
 v36:=Tryz.zeroValue142
 t41:=Tryz.underlying147
 a41:=Tryz.isAgg147
 z41:=Tryz.sizeOf147
 v41:=Tryz.zeroValue147
 t44:=Tryz.underlying150
 a44:=Tryz.isAgg150
 z44:=Tryz.sizeOf150
 v44:=Tryz.zeroValue150
 t46:=Tryz.underlying152
 a46:=Tryz.isAgg152
 z46:=Tryz.sizeOf152
 v46:=Tryz.zeroValue152
 t53:=Tryz.underlying159
 a53:=Tryz.isAgg159
 z53:=Tryz.sizeOf159
 v53:=Tryz.zeroValue159
 t57:=Tryz.underlying163
 a57:=Tryz.isAgg163
 z57:=Tryz.sizeOf163
 v57:=Tryz.zeroValue163
 t63:=Tryz.underlying181
 a63:=Tryz.isAgg181
 z63:=Tryz.sizeOf181
 v63:=Tryz.zeroValue181
 t64:=Tryz.underlying64
 a64:=Tryz.isAgg64
 z64:=Tryz.sizeOf64
 v64:=Tryz.zeroValue64 }
open Go.RowKit Go.Maps Go.Sort in
theorem Tryz.sorts54 (m:Nat):AnyZI.SortsIn Tryz.prog Tryz.sorted54_ren Fence.wide m :=
 ⟨fun blk off cap ss W hH hblk hsz=>callsIn_wide.2 (AnyM.slices_Sort_int Tryz.sort56 blk off cap ss W hH hblk hsz),
  fun p cap W=>callsIn_wide.2 (AnyM.slices_Sort_int_none Tryz.sort56 p cap W)⟩
open Go.RowKit Go.Maps Go.Sort in
theorem Tryz.maps_Keys_55 (mb:Option Nat) (W:World):CallsIn Fence.wide 5 Tryz.prog 55 #[.map mb] W fun e w'=>e=.returned (.func (.func 72) #[] #[.pointer (some ⟨W.heap.size,0,none⟩)])∧w'=W.alloc (.cells #[.map mb] 98) :=
 AnyZI.keys_in Tryz.keys55 Fence.wide 5 trivial rfl mb W
open Go.RowKit Go.Maps Go.Sort in
theorem Tryz.slices_Sorted_keys_54_55 {H:Type} (b nn:Nat) (D0:DataW H) (R:Value→Option (DataW H×List MemPlace)) (w:World) (hown:w.ownsMap Tryz.prog 3 R b nn D0) (hmax:Maps.size D0≤maxLen) (hbytes:Maps.size D0*8≤140737488355328) :
  CallsIn Fence.wide 5 Tryz.prog 54 #[.func (.func 72) #[] #[.pointer (some ⟨w.heap.size,0,none⟩)]] (w.alloc (.cells #[.map (some b)] 98)) fun e w'=>∃ (v:Value) (ss:List Int),e=.returned v∧ss.Perm (intKeys D0) ∧
   w'.ownsRow (w.alloc (.cells #[.map (some b)] 98)).heap.size 3 1 v ss.length ((ss.mergeSort (fun x y=>decide (x≤y))).map encZ)∧(v=.slice none 0 0↔ss=[])∧Below (w.alloc (.cells #[.map (some b)] 98)).heap.size (w.alloc (.cells #[.map (some b)] 98)) w':=by
 have hbl:=hown.lt
 have hseq:SeqGives Fence.wide 2 Tryz.prog 72 #[.pointer (some ⟨w.heap.size,0,none⟩)] encZ (fun ss=>ss.Perm (intKeys D0)) (Maps.size D0) (w.alloc (.cells #[.map (some b)] 98)) :=
  AnyZI.keys_gives (ρ:=Tryz.keys55_ren) { Tryz.keys55 with } Fence.wide _ trivial rfl (by omega) w.heap.size b nn D0 _ (by simp) (by simp) (by
   obtain ⟨es,clock,hb,Ft,hs,hD⟩:=hown
   exact ⟨es,clock,(Below.heap_alloc _ _ b hbl).trans hb,Ft,hs,hD⟩)
 exact AnyZI.sorted_in Tryz.sorted54 Fence.wide 5 trivial trivial trivial trivial rfl (by omega) (Tryz.sorts54 _) (enters_of Tryz.func56 (by kernel_rfl) rfl) 72 #[.pointer (some ⟨w.heap.size,0,none⟩)] trivial (enters_of Tryz.func72 (by kernel_rfl) rfl) _ _ hmax hbytes _ hseq
end Go.Proofs
namespace Go.Proofs.YtidhgicajlaafaaGreat.MX
open Go Go.RowKit MM Go.Maps IM Go.Sort
section
variable {e : TypeId} {B g cap m : Nat} {v : Value} {zs : List Int} {w w' : World}
theorem putCells_size (enc:Int→Value) (o:Nat) (d:Array Int) (c:Array Value):(putCells enc o d c).size=c.size:=by unfold putCells;simp
theorem sorted_row (h:OwnC cInt e B w (.slice (some ⟨g,0,none⟩) zs.length cap) zs) (n:Nat) (os:Array Obj) :
  OwnC cInt e B (grow (putRow (Value.int .i64) (Sort.ahead w n) g 0 (sortI zs).toArray) os) (.slice (some ⟨g,0,none⟩) zs.length cap) (sortI zs)∧Kep (fun k=>k≠g) w (grow (putRow (Value.int .i64) (Sort.ahead w n) g 0 (sortI zs).toArray) os):=by
 have h1:=own_introw h
 rcases h1.2 with ⟨hv,_⟩ | ⟨g',cap',cur,hv,hb,hh,hn,hm,hs,ht⟩
 ·cases hv
 simp only [Value.slice.injEq,Option.some.injEq,Addr.mk.injEq] at hv
 obtain ⟨⟨rfl,_⟩,_,rfl⟩:=hv
 have hg:=(Array.getElem?_eq_some_iff.1 hh).1
 have hblk:∀ k,k<w.heap.size→(grow (putRow (Value.int .i64) (Sort.ahead w n) g 0 (sortI zs).toArray) os).heap[k]? = ((Sort.ahead w n).heap.modify g (onCells (putCells (Value.int .i64) 0 (sortI zs).toArray)))[k]? := fun k hk=>by
  show ((putRow (Value.int .i64) (Sort.ahead w n) g 0 (sortI zs).toArray).heap++os)[k]? = _
  rw [Array.getElem?_append_left (by rw [size_putRow];exact hk)]
  rfl
 have hnew:(grow (putRow (Value.int .i64) (Sort.ahead w n) g 0 (sortI zs).toArray) os).heap[g]? = some (.cells (putCells (Value.int .i64) 0 (sortI zs).toArray cur) e (0,0)):=by
  rw [hblk g hg,Array.getElem?_modify,if_pos rfl]
  show (w.heap[g]?).map _=_
  rw [hh]
  rfl
 refine ⟨introw_own ⟨by rw [List.length_map,Nat.mul_one],.inr ⟨g,cap,_,?_,hb,hnew,by rw [sortI_len];exact hn,hm,by rw [putCells_size];exact hs,?_⟩⟩,⟨rfl,rfl,rfl,?_,fun k hk hne => ?_⟩⟩
 ·rw [sortI_len]
 ·rw [Nat.mul_one]
  have hcl:zs.length≤cur.size:=by rw [hs];omega
  refine List.ext_getElem? fun j => ?_
  by_cases hj:j<(sortI zs).length
  ·have hj2:j<zs.length:=by rw [sortI_len] at hj;exact hj
   rw [List.getElem?_take_of_lt hj,Array.getElem?_toList,List.getElem?_map,List.getElem?_eq_getElem hj]
   unfold putCells
   rw [Array.getElem?_mapIdx,Array.getElem?_eq_getElem (by omega)]
   simp only [Option.map_some,Option.some.injEq,List.size_toArray,Nat.zero_add,Nat.zero_le,true_and,Nat.sub_zero]
   rw [if_pos hj]
   congr 1
   rw [getElem!_pos (sortI zs).toArray j (by simpa using hj)]
   simp
  ·rw [List.getElem?_eq_none (by rw [List.length_take];omega),List.getElem?_eq_none (by rw [List.length_map];omega)]
 ·show w.heap.size≤(grow (putRow _ _ g 0 _) os).heap.size
  rw [size_grow,size_putRow]
  exact Nat.le_add_right _ _
 ·rw [hblk k hk,Array.getElem?_modify,if_neg (fun e=>hne e.symm)]
  rfl
theorem sort_own (h:OwnC cInt e B w (.slice (some ⟨g,0,none⟩) zs.length cap) zs) (hl:zs.length<4611686018427387904) :
  Calls Tryz.prog 56 #[.slice (some ⟨g,0,none⟩) zs.length cap] w fun en w'=>en=.returned (.tuple #[])∧OwnC cInt e B w' (.slice (some ⟨g,0,none⟩) zs.length cap) (sortI zs)∧Kep (fun k=>k≠g) w w':=by
 have h1:=own_introw h
 have hg:=(World.ownsRow.lt h1 g rfl).2
 have hH:Holds (Value.int .i64) w g 0 zs.toArray:=fun j hj=>by
  have hj2:j<zs.length:=by simpa using hj
  refine ⟨?_,World.ownsRow.frozenAt h1 _⟩
  have h2:=World.ownsRow.cellAt h1 j (by omega)
  rw [Nat.zero_add]
  refine h2.trans ?_
  rw [List.getElem?_map,List.getElem?_eq_getElem hj2,getElem!_pos zs.toArray j hj]
  simp
 refine (AnyM.slices_Sort_int Tryz.sort56 g 0 cap zs w hH hg hl).mono ?_
 rintro en w' ⟨rfl,n,os,rfl⟩
 exact ⟨rfl,sorted_row h n os⟩
end
section
variable {w : World} {mb m : Nat} {D : DataW Value} {R : Value → Option (DataW Value × List MemPlace)}
theorem ikeys (hown:w.ownsMap Tryz.prog 3 R mb m D):(intKeys D).Nodup∧∀ x,x∈intKeys D↔Maps.has D (.int .i64 x)=true:=by
 obtain ⟨es,rfl,hp,_⟩:=hown.entries intKeyed
 have hk:∀ p∈es,∃ x,p.1=.int .i64 x:=by
  obtain ⟨es',he,hko⟩:=hown.keysOf
  have he:es=es':=by simpa using he
  subst he
  intro p hpm
  obtain ⟨v,hv⟩:=hko p hpm
  obtain ⟨x,_,hx,_⟩:=Maps.keyOf_i64 Tryz.underlying3 hv
  exact ⟨x,hx⟩
 refine ⟨?_,fun x => ?_⟩
 ·show (es.map fun p=>Go.intOf p.1).Nodup
  refine List.pairwise_map.2 (hp.imp_of_mem fun {p q} hp' hq' hne e=>hne ?_)
  obtain ⟨a,ha⟩:=hk p hp'
  obtain ⟨b,hb⟩:=hk q hq'
  rw [ha,hb] at e ⊢
  exact congrArg _ e
 ·rw [has_eq,List.any_eq_true]
  show x∈es.map (fun p=>Go.intOf p.1)↔_
  rw [List.mem_map]
  constructor
  ·rintro ⟨p,hp',rfl⟩
   obtain ⟨a,ha⟩:=hk p hp'
   exact ⟨p,hp',by rw [ha];simp [Lit.sameKey,Go.intOf]⟩
  ·rintro ⟨p,hp',hs⟩
   obtain ⟨a,ha⟩:=hk p hp'
   rw [ha] at hs
   exact ⟨p,hp',by rw [ha];simpa [Lit.sameKey,Go.intOf] using hs⟩
theorem ikeys_sorted (hown:w.ownsMap Tryz.prog 3 R mb m D) {ss:List Int} (hp:ss.Perm (intKeys D)):(sortI ss).Pairwise (·<·)∧∀ x,x∈sortI ss↔Maps.has D (.int .i64 x)=true:=by
 obtain ⟨h1,h2⟩:=ikeys hown
 have h3:=(sortI_perm ss).trans hp
 have h4:(sortI ss).Nodup:=h3.nodup_iff.2 h1
 exact ⟨((sortI_sorted ss).and h4).imp fun {a b} h=>by have h5:a≠b:=h.2;have h6:a≤b:=h.1;omega,fun x=>by rw [h3.mem_iff,h2]⟩
end
end Go.Proofs.YtidhgicajlaafaaGreat.MX
