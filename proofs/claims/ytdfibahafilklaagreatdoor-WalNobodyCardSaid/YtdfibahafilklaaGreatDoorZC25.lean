import Derived.Shelf.SlIter.Nil
import Derived.Shelf.SortM.Plain
import Derived.Shelf.SortM.SortNone
import Derived.Test.YtdfibahafilklaaGreatDoorZC20
set_option maxRecDepth 100000
set_option maxHeartbeats 8000000
set_option linter.unusedVariables false
set_option linter.unusedSimpArgs false
namespace Go.Proofs
open Go.Shelf
def Tryz.keys117_ren:Go.Shelf.Ren:=⟨fun | 7=>117 | 10=>156 | n=>n,fun | 23=>109 | 26=>9 | 3=>127 | 28=>177 | 0=>0 | 27=>176 | 33=>132 | 4=>4 | n=>n,fun | n=>n⟩
theorem Tryz.keys117:Go.Proofs.SlLaysZ.n7 Tryz.prog Tryz.keys117_ren:={
 mixed:=by kernel_rfl
 f7:=⟨Tryz.f117.name,by decide,Tryz.func117.trans (congrArg some (by kernel_rfl))⟩
 f10:=⟨Tryz.f156.name,by decide,Tryz.func156.trans (congrArg some (by kernel_rfl))⟩
 t0:=Tryz.underlying0
 a0:=Tryz.isAgg0
 z0:=Tryz.sizeOf0
 v0:=Tryz.zeroValue0
 t4:=Tryz.underlying4
 a4:=Tryz.isAgg4
 z4:=Tryz.sizeOf4
 v4:=Tryz.zeroValue4
 t23:=Tryz.underlying109
 a23:=Tryz.isAgg109
 z23:=Tryz.sizeOf109
 v23:=Tryz.zeroValue109
 t26:=Tryz.underlying9
 a26:=Tryz.isAgg9
 z26:=Tryz.sizeOf9
 v26:=Tryz.zeroValue9
 t27:=Tryz.underlying176
 a27:=Tryz.isAgg176
 z27:=Tryz.sizeOf176
 v27:=Tryz.zeroValue176
 t28:=Tryz.underlying177
 a28:=Tryz.isAgg177
 z28:=Tryz.sizeOf177
 v28:=Tryz.zeroValue177
 t33:=Tryz.underlying132
 a33:=Tryz.isAgg132
 z33:=Tryz.sizeOf132
 v33:=Tryz.zeroValue132 }
def Tryz.sorted116_ren:Go.Shelf.Ren:=⟨fun | 6=>116 | 8=>154 | 9=>155 | 11=>178 | 13=>180 | 12=>179 | 23=>200 | 24=>174 | 14=>191 | 15=>192 | 16=>193 | 17=>194 | 18=>195 | 19=>196 | 20=>197 | 21=>198 | 22=>199 | 25=>207 | 26=>208 | 27=>209 | 28=>210 | 29=>211 | 30=>212 | 31=>214 | n=>n,fun | 26=>9 | 28=>177 | 24=>140 | 0=>0 | 3=>3 | 37=>147 | 48=>159 | 50=>156 | 4=>4 | 40=>246 | 39=>245 | 45=>27 | 5=>5 | 9=>9 | 51=>255 | 55=>259 | 57=>264 | 58=>265 | 33=>132 | n=>n,fun | n=>n⟩
theorem Tryz.sorted116:Go.Proofs.SlLaysZ.n6 Tryz.prog Tryz.sorted116_ren:={
 mixed:=by kernel_rfl
 f6:=⟨Tryz.f116.name,by decide,Tryz.func116.trans (congrArg some (by kernel_rfl))⟩
 f8:=⟨Tryz.f154.name,by decide,Tryz.func154.trans (congrArg some (by kernel_rfl))⟩
 f11:=⟨Tryz.f178.name,by decide,Tryz.func178.trans (congrArg some (by kernel_rfl))⟩
 t0:=Tryz.underlying0
 a0:=Tryz.isAgg0
 z0:=Tryz.sizeOf0
 v0:=Tryz.zeroValue0
 t24:=Tryz.underlying140
 a24:=Tryz.isAgg140
 z24:=Tryz.sizeOf140
 v24:=Tryz.zeroValue140
 t26:=Tryz.underlying9
 a26:=Tryz.isAgg9
 z26:=Tryz.sizeOf9
 v26:=Tryz.zeroValue9
 t28:=Tryz.underlying177
 a28:=Tryz.isAgg177
 z28:=Tryz.sizeOf177
 v28:=Tryz.zeroValue177
 i26:=by kernel_rfl }
def Tryz.sort155_ren:Go.Shelf.Ren:=⟨fun | 6=>155 | 8=>180 | 9=>179 | 19=>200 | 20=>174 | 21=>191 | 22=>192 | 23=>193 | 24=>194 | 25=>195 | 26=>196 | 27=>197 | 28=>198 | 29=>199 | 36=>207 | 31=>208 | 32=>209 | 37=>210 | 38=>211 | 39=>212 | 41=>214 | n=>n,fun | 27=>140 | 29=>9 | 3=>3 | 32=>147 | 26=>140 | 0=>0 | 44=>159 | 46=>156 | 4=>4 | 36=>246 | 35=>245 | 41=>27 | 5=>5 | 9=>9 | 53=>255 | 57=>259 | 63=>264 | 64=>265 | n=>n,fun | n=>n⟩
theorem Tryz.sort155:Go.Proofs.SlLaysM.n6 Tryz.prog Tryz.sort155_ren:={
 mixed:=by kernel_rfl
 f6:=⟨Tryz.f155.name,by decide,Tryz.func155.trans (congrArg some (by kernel_rfl))⟩
 f8:=Tryz.func180.trans (congrArg some (by kernel_rfl))
 f9:=⟨Tryz.f179.name,by decide,Tryz.func179.trans (congrArg some (by kernel_rfl))⟩
 f19:=Tryz.func200.trans (congrArg some (by kernel_rfl))
 f20:=Tryz.func174.trans (congrArg some (by kernel_rfl))
 f21:=⟨Tryz.f191.name,by decide,Tryz.func191.trans (congrArg some (by kernel_rfl))⟩
 f22:=⟨Tryz.f192.name,by decide,Tryz.func192.trans (congrArg some (by kernel_rfl))⟩
 f23:=⟨Tryz.f193.name,by decide,Tryz.func193.trans (congrArg some (by kernel_rfl))⟩
 f24:=⟨Tryz.f194.name,by decide,Tryz.func194.trans (congrArg some (by kernel_rfl))⟩
 f25:=⟨Tryz.f195.name,by decide,Tryz.func195.trans (congrArg some (by kernel_rfl))⟩
 f26:=⟨Tryz.f196.name,by decide,Tryz.func196.trans (congrArg some (by kernel_rfl))⟩
 f27:=⟨Tryz.f197.name,by decide,Tryz.func197.trans (congrArg some (by kernel_rfl))⟩
 f28:=⟨Tryz.f198.name,by decide,Tryz.func198.trans (congrArg some (by kernel_rfl))⟩
 f29:=⟨Tryz.f199.name,by decide,Tryz.func199.trans (congrArg some (by kernel_rfl))⟩
 f31:=Tryz.func208.trans (congrArg some (by kernel_rfl))
 f32:=Tryz.func209.trans (congrArg some (by kernel_rfl))
 f36:=⟨Tryz.f207.name,by decide,Tryz.func207.trans (congrArg some (by kernel_rfl))⟩
 f37:=⟨Tryz.f210.name,by decide,Tryz.func210.trans (congrArg some (by kernel_rfl))⟩
 f38:=⟨Tryz.f211.name,by decide,Tryz.func211.trans (congrArg some (by kernel_rfl))⟩
 f39:=⟨Tryz.f212.name,by decide,Tryz.func212.trans (congrArg some (by kernel_rfl))⟩
 f41:=⟨Tryz.f214.name,by decide,Tryz.func214.trans (congrArg some (by kernel_rfl))⟩
 t0:=Tryz.underlying0
 a0:=Tryz.isAgg0
 z0:=Tryz.sizeOf0
 v0:=Tryz.zeroValue0
 t3:=Tryz.underlying3
 a3:=Tryz.isAgg3
 z3:=Tryz.sizeOf3
 v3:=Tryz.zeroValue3
 t4:=Tryz.underlying4
 a4:=Tryz.isAgg4
 z4:=Tryz.sizeOf4
 v4:=Tryz.zeroValue4
 t5:=Tryz.underlying5
 a5:=Tryz.isAgg5
 z5:=Tryz.sizeOf5
 v5:=Tryz.zeroValue5
 t9:=Tryz.underlying9
 a9:=Tryz.isAgg9
 z9:=Tryz.sizeOf9
 v9:=Tryz.zeroValue9
 t26:=Tryz.underlying140
 a26:=Tryz.isAgg140
 z26:=Tryz.sizeOf140
 v26:=Tryz.zeroValue140
 t27:=Tryz.underlying140
 a27:=Tryz.isAgg140
 z27:=Tryz.sizeOf140
 v27:=Tryz.zeroValue140
 t29:=Tryz.underlying9
 a29:=Tryz.isAgg9
 z29:=Tryz.sizeOf9
 v29:=Tryz.zeroValue9
 t32:=Tryz.underlying147
 a32:=Tryz.isAgg147
 z32:=Tryz.sizeOf147
 v32:=Tryz.zeroValue147
 t35:=Tryz.underlying245
 a35:=Tryz.isAgg245
 z35:=Tryz.sizeOf245
 v35:=Tryz.zeroValue245
 t36:=Tryz.underlying246
 a36:=Tryz.isAgg246
 z36:=Tryz.sizeOf246
 v36:=Tryz.zeroValue246
 t41:=Tryz.underlying27
 a41:=Tryz.isAgg27
 z41:=Tryz.sizeOf27
 v41:=Tryz.zeroValue27
 t44:=Tryz.underlying159
 a44:=Tryz.isAgg159
 z44:=Tryz.sizeOf159
 v44:=Tryz.zeroValue159
 t46:=Tryz.underlying156
 a46:=Tryz.isAgg156
 z46:=Tryz.sizeOf156
 v46:=Tryz.zeroValue156
 t53:=Tryz.underlying255
 a53:=Tryz.isAgg255
 z53:=Tryz.sizeOf255
 v53:=Tryz.zeroValue255
 t57:=Tryz.underlying259
 a57:=Tryz.isAgg259
 z57:=Tryz.sizeOf259
 v57:=Tryz.zeroValue259
 t63:=Tryz.underlying264
 a63:=Tryz.isAgg264
 z63:=Tryz.sizeOf264
 v63:=Tryz.zeroValue264
 t64:=Tryz.underlying265
 a64:=Tryz.isAgg265
 z64:=Tryz.sizeOf265
 v64:=Tryz.zeroValue265 }
open Go.RowKit Go.Maps Go.Sort in
theorem Tryz.sorts116 (m:Nat):AnyZ.SortsIn Tryz.prog Tryz.sorted116_ren Fence.wide m :=
 ⟨fun blk off cap ss W hH hblk hsz=>callsIn_wide.2 (AnyM.slices_Sort_string Tryz.sort155 blk off cap ss W hH hblk hsz),
  fun p cap W=>callsIn_wide.2 (AnyM.slices_Sort_string_none Tryz.sort155 p cap W)⟩
open Go.RowKit Go.Maps Go.Sort in
theorem Tryz.maps_Keys_117 (mb:Option Nat) (W:World):CallsIn Fence.wide 5 Tryz.prog 117 #[.map mb] W fun e w'=>e=.returned (.func (.func 156) #[] #[.pointer (some ⟨W.heap.size,0,none⟩)])∧w'=W.alloc (.cells #[.map mb] 109) :=
 AnyZ.keys_in Tryz.keys117 Fence.wide 5 trivial rfl mb W
open Go.RowKit Go.Maps Go.Sort in
theorem Tryz.slices_Sorted_keys_116_117 {H:Type} (b nn:Nat) (D0:DataW H) (R:Value→Option (DataW H×List MemPlace)) (w:World) (hown:w.ownsMap Tryz.prog 9 R b nn D0) (hmax:Maps.size D0≤maxLen) (hbytes:Maps.size D0*16≤140737488355328) :
  CallsIn Fence.wide 5 Tryz.prog 116 #[.func (.func 156) #[] #[.pointer (some ⟨w.heap.size,0,none⟩)]] (w.alloc (.cells #[.map (some b)] 109)) fun e w'=>∃ (v:Value) (ss:List (List UInt8)),e=.returned v∧ss.Perm (strKeys D0) ∧
   w'.ownsRow (w.alloc (.cells #[.map (some b)] 109)).heap.size 9 1 v ss.length ((ss.mergeSort (fun x y=>decide (x≤y))).map encStr)∧(v=.slice none 0 0↔ss=[])∧Below (w.alloc (.cells #[.map (some b)] 109)).heap.size (w.alloc (.cells #[.map (some b)] 109)) w':=by
 have hbl:=hown.lt
 have hseq:SeqGives Fence.wide 2 Tryz.prog 156 #[.pointer (some ⟨w.heap.size,0,none⟩)] encStr (fun ss=>ss.Perm (strKeys D0)) (Maps.size D0) (w.alloc (.cells #[.map (some b)] 109)) :=
  AnyZ.keys_gives (ρ:=Tryz.keys117_ren) { Tryz.keys117 with } Fence.wide _ trivial rfl (by omega) w.heap.size b nn D0 _ (by simp) (by simp) (by
   obtain ⟨es,clock,hb,Ft,hs,hD⟩:=hown
   exact ⟨es,clock,(Below.heap_alloc _ _ b hbl).trans hb,Ft,hs,hD⟩)
 exact AnyZ.sorted_in Tryz.sorted116 Fence.wide 5 trivial trivial trivial trivial rfl (by omega) (Tryz.sorts116 _) (enters_of Tryz.func155 (by kernel_rfl) rfl) 156 #[.pointer (some ⟨w.heap.size,0,none⟩)] trivial (enters_of Tryz.func156 (by kernel_rfl) rfl) _ _ hmax hbytes _ hseq
open Go.RowKit Go.Maps Go.Sort in
theorem Tryz.slices_Sorted_keys_nil_116_117 (w:World) :
  CallsIn Fence.wide 5 Tryz.prog 116 #[.func (.func 156) #[] #[.pointer (some ⟨w.heap.size,0,none⟩)]] (w.alloc (.cells #[.map none] 109)) fun e w'=>∃ (v:Value) (ss:List (List UInt8)),e=.returned v∧ss=[] ∧
   w'.ownsRow (w.alloc (.cells #[.map none] 109)).heap.size 9 1 v ss.length ((ss.mergeSort (fun x y=>decide (x≤y))).map encStr)∧(v=.slice none 0 0↔ss=[])∧Below (w.alloc (.cells #[.map none] 109)).heap.size (w.alloc (.cells #[.map none] 109)) w':=by
 have hseq:SeqGives Fence.wide 2 Tryz.prog 156 #[.pointer (some ⟨w.heap.size,0,none⟩)] encStr (fun ss:List (List UInt8)=>ss=[]) 0 (w.alloc (.cells #[.map none] 109)) :=
  AnyZ.keys_gives_nil (ρ:=Tryz.keys117_ren) { Tryz.keys117 with } Fence.wide _ trivial rfl w.heap.size _ (by simp) (by simp)
 exact AnyZ.sorted_in Tryz.sorted116 Fence.wide 5 trivial trivial trivial trivial rfl (by omega) (Tryz.sorts116 _) (enters_of Tryz.func155 (by kernel_rfl) rfl) 156 #[.pointer (some ⟨w.heap.size,0,none⟩)] trivial (enters_of Tryz.func156 (by kernel_rfl) rfl) _ 0 (Nat.zero_le _) (by omega) _ hseq
end Go.Proofs
namespace Go.Proofs.YtdfibahafilklaaGreatDoor.DK
open Go.RowKit MM Go.Maps
theorem less_lt:∀ (a b:List UInt8),lessL a b=true→a<b
 | [],[],h=>by simp [lessL] at h
 | [],b::t,_=>List.nil_lt_cons b t
 | _::_,[],h=>by simp [lessL] at h
 | a::s,b::t,h=>by
   unfold lessL at h
   rw [List.cons_lt_cons_iff]
   by_cases e:a=b
   ·rw [if_pos e] at h
    exact .inr ⟨e,less_lt s t h⟩
   ·rw [if_neg e] at h
    exact .inl (of_decide_eq_true h)
theorem rise_pair:∀ {L:List FileD},Rise L→(L.map (·.name)).Pairwise (fun a b=>lessL a b=true)
 | [],_=>List.Pairwise.nil
 | f::L,h=>by
   rw [List.map_cons]
   refine List.Pairwise.cons (fun n hn => ?_) (rise_pair h.2)
   obtain ⟨g,hg,rfl⟩:=List.mem_map.1 hn
   exact h.1 g hg
theorem sorted_names {L:List FileD} {D:DataW Value} {w:World} {mb m:Nat} {R:Value→Option (DataW Value×List MemPlace)} (hown:w.ownsMap Tryz.prog 9 R mb m D) (hr:Rise L) (hh:∀ n,Maps.has D (.string n)=(findL L n).isSome) {ss:List (List UInt8)}
  (hs:ss.Perm (strKeys D)):ss.mergeSort (fun x y=>decide (x≤y))=L.map (·.name):=by
 obtain ⟨es,rfl,hp,_⟩:=hown.entries strKeyed
 have hk:∀ p∈es,∃ x,p.1=.string x:=by
  obtain ⟨es',he,hko⟩:=hown.keysOf
  have he:es=es':=by simpa using he
  subst he
  intro p hpm
  obtain ⟨v,hv⟩:=hko p hpm
  obtain ⟨x,_,hx,_⟩:=Maps.keyOf_str Tryz.underlying9 hv
  exact ⟨x,hx⟩
 have hpair:=rise_pair hr
 have hnd:(L.map (·.name)).Nodup:=hpair.imp fun {a b} h e=>by
  rw [e,lessL_irr] at h
  cases h
 have hperm:(L.map (·.name)).Perm (strKeys (.map es)):=perm_strKeys hp hk hnd fun x=>by
  rw [hh x]
  unfold findL
  rw [List.find?_isSome,List.mem_map]
  constructor
  ·rintro ⟨f,hf,rfl⟩
   exact ⟨f,hf,by simp⟩
  ·rintro ⟨f,hf,e⟩
   exact ⟨f,hf,by simpa using e⟩
 have h1:=mergeSort_of_perm (hs.trans hperm.symm)
 have h2:(L.map (·.name)).mergeSort leB=L.map (·.name):=by
  have tr:∀ a b c:List UInt8,leB a b=true→leB b c=true→leB a c=true:=fun a b c h1 h2=>by simp only [leB,decide_eq_true_eq] at *;exact List.le_trans h1 h2
  have to:∀ a b:List UInt8,(leB a b||leB b a)=true:=fun a b=>by simp only [leB,Bool.or_eq_true,decide_eq_true_eq];exact List.le_total a b
  refine List.Perm.eq_of_pairwise (le:=fun a b=>leB a b=true) (fun a b _ _ q1 q2 => ?_) (List.pairwise_mergeSort tr to _) (hpair.imp fun {a b} h => ?_) (List.mergeSort_perm _ leB)
  ·simp only [leB,decide_eq_true_eq] at q1 q2
   exact List.le_antisymm q1 q2
  ·simp only [leB,decide_eq_true_eq]
   exact List.le_of_lt (less_lt a b h)
 exact h1.trans h2
theorem sin_of_own {w:World} {base:Nat} {v:Value} {n:Nat} {ns:List (List UInt8)} (h:w.ownsRow base 9 1 v n (ns.map encStr)):SIn w.heap.size w v ns:=Row.of_own h
theorem names_own (S:Nat→Prop) (g mb:Nat) (V:List UInt8→Value) (c:Int) (d:DiskD) (w:World) (h:CObj S w g mb V c d) (hF:Fits d) :
  Calls Tryz.prog 74 #[.pointer (some ⟨g,0,none⟩)] w fun e w'=>∃ v B n,e=.returned v∧w.heap.size≤B∧w'.ownsRow B 9 1 v n ((d.L.map (·.name)).map encStr)∧Below w.heap.size w w':=by
 have h0:=h.g0
 obtain ⟨D,hD,hs,hh⟩:=h.tab.map
 have hl:=hF.len
 have hK:=callsIn_wide.1 (Tryz.maps_Keys_117 (some mb) w)
 have hS:=callsIn_wide.1 (Tryz.slices_Sorted_keys_116_117 mb d.L.length D R0 w hD (by rw [hs];unfold maxLen;omega) (by rw [hs];omega))
 have HN:=Lib.hid (fun (ss:List (List UInt8)) (hp:ss.Perm (strKeys D))=>sorted_names hD hF.good.rise (fun n=>by rw [(hh n).1,(cur_tab d V n).2]) hp)
 have HK:=Lib.hid hK
 have HS:=Lib.hid hS
 have HB:=Lib.hid (fun o=>(Below.refl w.heap.size w).alloc (Nat.le_refl _) o)
 clear hK hS hD hs hh h hF hl
 go_enter Tryz.func74,Tryz.ntmps74
 go_wp2_with fail
 refine HK.out.mono ?_
 rintro e w1 ⟨rfl,hw1⟩
 subst hw1
 go_wp2_with fail
 refine HS.out.mono ?_
 rintro e w2 ⟨v,ss,rfl,hp,hrow,_,hb⟩
 rw [HN.out ss hp] at hrow
 have HF:=Lib.hid (show ∃ u B n,Ending.returned v=.returned u∧w.heap.size≤B∧w2.ownsRow B 9 1 u n ((d.L.map (·.name)).map encStr)∧Below w.heap.size w w2 from ⟨v,_,_,rfl,(by simp),hrow,(HB.out _).trans (hb.mono (by simp))⟩)
 clear hp hrow hb
 go_wp2_with fail
 go_ret
 exact HF.out
end Go.Proofs.YtdfibahafilklaaGreatDoor.DK
