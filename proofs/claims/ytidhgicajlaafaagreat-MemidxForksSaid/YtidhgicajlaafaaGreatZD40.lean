import Derived.Shelf.SlIter.Nil
import Derived.Test.YtidhgicajlaafaaGreatZD39
set_option maxRecDepth 100000
set_option maxHeartbeats 8000000
set_option linter.unusedVariables false
set_option linter.unusedSimpArgs false
namespace Go.Proofs.YtidhgicajlaafaaGreat.SG
open Go Go.RowKit MM Go.Maps SM
open EM (lessL lessL_irr Rising posOf)
theorem less_lt:∀ (a b:List UInt8),lessL a b=true→a<b
 | [],[],h=>by simp [lessL] at h
 | [],b::t,_=>List.nil_lt_cons b t
 | _::_,[],h=>by simp [lessL] at h
 | a::s,b::t,h=>by
   unfold lessL at h
   rw [List.cons_lt_cons_iff]
   by_cases e:a=b
   ·rw [if_pos e] at h
    exact .inr ⟨e,less_lt s t h⟩
   ·rw [if_neg e] at h
    exact .inl (UInt8.lt_iff_toNat_lt.2 (of_decide_eq_true h))
theorem sorted_keys {α:Type} {T:List (EM.Tr α)} {D:DataW Value} {w:World} {mb m:Nat} {R:Value→Option (DataW Value×List MemPlace)} (hown:w.ownsMap Tryz.prog 9 R mb m D) (hr:Rising T) (hh:∀ n,Maps.has D (.string n)=true↔n∈T.map (·.1)) {ss:List (List UInt8)}
  (hs:ss.Perm (strKeys D)):ss.mergeSort (fun x y=>decide (x≤y))=T.map (·.1):=by
 obtain ⟨es,rfl,hp,_⟩:=hown.entries strKeyed
 have hk:∀ p∈es,∃ x,p.1=.string x:=by
  obtain ⟨es',he,hko⟩:=hown.keysOf
  have he:es=es':=by simpa using he
  subst he
  intro p hpm
  obtain ⟨v,hv⟩:=hko p hpm
  obtain ⟨x,_,hx,_⟩:=Maps.keyOf_str Tryz.underlying9 hv
  exact ⟨x,hx⟩
 have hpair:(T.map (·.1)).Pairwise (fun a b=>lessL a b=true):=by
  rw [List.pairwise_map]
  exact hr
 have hnd:(T.map (·.1)).Nodup:=hpair.imp fun {a b} h e=>by
  rw [e,lessL_irr] at h
  cases h
 have hperm:(T.map (·.1)).Perm (strKeys (.map es)):=perm_strKeys hp hk hnd fun x=>(hh x).symm
 have h1:=mergeSort_of_perm (hs.trans hperm.symm)
 have h2:(T.map (·.1)).mergeSort leB=T.map (·.1):=by
  have tr:∀ a b c:List UInt8,leB a b=true→leB b c=true→leB a c=true:=fun a b c h1 h2=>by simp only [leB,decide_eq_true_eq] at *;exact List.le_trans h1 h2
  have to:∀ a b:List UInt8,(leB a b||leB b a)=true:=fun a b=>by simp only [leB,Bool.or_eq_true,decide_eq_true_eq];exact List.le_total a b
  refine List.Perm.eq_of_pairwise (le:=fun a b=>leB a b=true) (fun a b _ _ q1 q2 => ?_) (List.pairwise_mergeSort tr to _) (hpair.imp fun {a b} h => ?_) (List.mergeSort_perm _ leB)
  ·simp only [leB,decide_eq_true_eq] at q1 q2
   exact List.le_antisymm q1 q2
  ·simp only [leB,decide_eq_true_eq]
   exact List.le_of_lt (less_lt a b h)
 exact h1.trans h2
end Go.Proofs.YtidhgicajlaafaaGreat.SG
namespace Go.Proofs
open Go.Shelf
def Tryz.keys58_ren:Go.Shelf.Ren:=⟨fun | 7=>58 | 10=>77 | n=>n,fun | 23=>58 | 26=>9 | 3=>33 | 28=>107 | 0=>0 | 27=>106 | 33=>127 | 4=>4 | n=>n,fun | n=>n⟩
theorem Tryz.keys58:Go.Proofs.SlLaysZ.n7 Tryz.prog Tryz.keys58_ren:={
 mixed:=by kernel_rfl
 f7:=⟨Tryz.f58.name,by decide,Tryz.func58.trans (congrArg some (by kernel_rfl))⟩
 f10:=⟨Tryz.f77.name,by decide,Tryz.func77.trans (congrArg some (by kernel_rfl))⟩
 t0:=Tryz.underlying0
 a0:=Tryz.isAgg0
 z0:=Tryz.sizeOf0
 v0:=Tryz.zeroValue0
 t4:=Tryz.underlying4
 a4:=Tryz.isAgg4
 z4:=Tryz.sizeOf4
 v4:=Tryz.zeroValue4
 t23:=Tryz.underlying58
 a23:=Tryz.isAgg58
 z23:=Tryz.sizeOf58
 v23:=Tryz.zeroValue58
 t26:=Tryz.underlying9
 a26:=Tryz.isAgg9
 z26:=Tryz.sizeOf9
 v26:=Tryz.zeroValue9
 t27:=Tryz.underlying106
 a27:=Tryz.isAgg106
 z27:=Tryz.sizeOf106
 v27:=Tryz.zeroValue106
 t28:=Tryz.underlying107
 a28:=Tryz.isAgg107
 z28:=Tryz.sizeOf107
 v28:=Tryz.zeroValue107
 t33:=Tryz.underlying127
 a33:=Tryz.isAgg127
 z33:=Tryz.sizeOf127
 v33:=Tryz.zeroValue127 }
def Tryz.sorted57_ren:Go.Shelf.Ren:=⟨fun | 6=>57 | 8=>75 | 9=>76 | 11=>100 | 13=>74 | 12=>101 | 23=>98 | 24=>99 | 14=>116 | 15=>117 | 16=>118 | 17=>119 | 18=>120 | 19=>121 | 20=>122 | 21=>123 | 22=>124 | 25=>139 | 26=>111 | 27=>112 | 28=>140 | 29=>141 | 30=>109 | 31=>150 | n=>n,fun | 26=>9 | 28=>107 | 24=>36 | 0=>0 | 3=>3 | 37=>125 | 48=>150 | 50=>152 | 4=>4 | 40=>142 | 39=>141 | 45=>147 | 5=>5 | 9=>9 | 51=>159 | 55=>163 | 57=>181 | 58=>64 | 33=>127 | n=>n,fun | n=>n⟩
theorem Tryz.sorted57:Go.Proofs.SlLaysZ.n6 Tryz.prog Tryz.sorted57_ren:={
 mixed:=by kernel_rfl
 f6:=⟨Tryz.f57.name,by decide,Tryz.func57.trans (congrArg some (by kernel_rfl))⟩
 f8:=⟨Tryz.f75.name,by decide,Tryz.func75.trans (congrArg some (by kernel_rfl))⟩
 f11:=⟨Tryz.f100.name,by decide,Tryz.func100.trans (congrArg some (by kernel_rfl))⟩
 t0:=Tryz.underlying0
 a0:=Tryz.isAgg0
 z0:=Tryz.sizeOf0
 v0:=Tryz.zeroValue0
 t24:=Tryz.underlying36
 a24:=Tryz.isAgg36
 z24:=Tryz.sizeOf36
 v24:=Tryz.zeroValue36
 t26:=Tryz.underlying9
 a26:=Tryz.isAgg9
 z26:=Tryz.sizeOf9
 v26:=Tryz.zeroValue9
 t28:=Tryz.underlying107
 a28:=Tryz.isAgg107
 z28:=Tryz.sizeOf107
 v28:=Tryz.zeroValue107
 i26:=by kernel_rfl }
def Tryz.sort76_ren:Go.Shelf.Ren:=⟨fun | 6=>76 | 8=>74 | 9=>101 | 19=>98 | 20=>99 | 21=>116 | 22=>117 | 23=>118 | 24=>119 | 25=>120 | 26=>121 | 27=>122 | 28=>123 | 29=>124 | 36=>139 | 31=>111 | 32=>112 | 37=>140 | 38=>141 | 39=>109 | 41=>150 | n=>n,fun | 27=>36 | 29=>9 | 3=>3 | 32=>125 | 26=>36 | 0=>0 | 44=>150 | 46=>152 | 4=>4 | 36=>142 | 35=>141 | 41=>147 | 5=>5 | 9=>9 | 53=>159 | 57=>163 | 63=>181 | 64=>64 | n=>n,fun | n=>n⟩
theorem Tryz.sort76:Go.Proofs.SlLaysM.n6 Tryz.prog Tryz.sort76_ren:={
 mixed:=by kernel_rfl
 f6:=⟨Tryz.f76.name,by decide,Tryz.func76.trans (congrArg some (by kernel_rfl))⟩
 f8:=Tryz.func74.trans (congrArg some (by kernel_rfl))
 f9:=⟨Tryz.f101.name,by decide,Tryz.func101.trans (congrArg some (by kernel_rfl))⟩
 f19:=Tryz.func98.trans (congrArg some (by kernel_rfl))
 f20:=Tryz.func99.trans (congrArg some (by kernel_rfl))
 f21:=⟨Tryz.f116.name,by decide,Tryz.func116.trans (congrArg some (by kernel_rfl))⟩
 f22:=⟨Tryz.f117.name,by decide,Tryz.func117.trans (congrArg some (by kernel_rfl))⟩
 f23:=⟨Tryz.f118.name,by decide,Tryz.func118.trans (congrArg some (by kernel_rfl))⟩
 f24:=⟨Tryz.f119.name,by decide,Tryz.func119.trans (congrArg some (by kernel_rfl))⟩
 f25:=⟨Tryz.f120.name,by decide,Tryz.func120.trans (congrArg some (by kernel_rfl))⟩
 f26:=⟨Tryz.f121.name,by decide,Tryz.func121.trans (congrArg some (by kernel_rfl))⟩
 f27:=⟨Tryz.f122.name,by decide,Tryz.func122.trans (congrArg some (by kernel_rfl))⟩
 f28:=⟨Tryz.f123.name,by decide,Tryz.func123.trans (congrArg some (by kernel_rfl))⟩
 f29:=⟨Tryz.f124.name,by decide,Tryz.func124.trans (congrArg some (by kernel_rfl))⟩
 f31:=Tryz.func111.trans (congrArg some (by kernel_rfl))
 f32:=Tryz.func112.trans (congrArg some (by kernel_rfl))
 f36:=⟨Tryz.f139.name,by decide,Tryz.func139.trans (congrArg some (by kernel_rfl))⟩
 f37:=⟨Tryz.f140.name,by decide,Tryz.func140.trans (congrArg some (by kernel_rfl))⟩
 f38:=⟨Tryz.f141.name,by decide,Tryz.func141.trans (congrArg some (by kernel_rfl))⟩
 f39:=⟨Tryz.f109.name,by decide,Tryz.func109.trans (congrArg some (by kernel_rfl))⟩
 f41:=⟨Tryz.f150.name,by decide,Tryz.func150.trans (congrArg some (by kernel_rfl))⟩
 t0:=Tryz.underlying0
 a0:=Tryz.isAgg0
 z0:=Tryz.sizeOf0
 v0:=Tryz.zeroValue0
 t3:=Tryz.underlying3
 a3:=Tryz.isAgg3
 z3:=Tryz.sizeOf3
 v3:=Tryz.zeroValue3
 t4:=Tryz.underlying4
 a4:=Tryz.isAgg4
 z4:=Tryz.sizeOf4
 v4:=Tryz.zeroValue4
 t5:=Tryz.underlying5
 a5:=Tryz.isAgg5
 z5:=Tryz.sizeOf5
 v5:=Tryz.zeroValue5
 t9:=Tryz.underlying9
 a9:=Tryz.isAgg9
 z9:=Tryz.sizeOf9
 v9:=Tryz.zeroValue9
 t26:=Tryz.underlying36
 a26:=Tryz.isAgg36
 z26:=Tryz.sizeOf36
 v26:=Tryz.zeroValue36
 t27:=Tryz.underlying36
 a27:=Tryz.isAgg36
 z27:=Tryz.sizeOf36
 v27:=Tryz.zeroValue36
 t29:=Tryz.underlying9
 a29:=Tryz.isAgg9
 z29:=Tryz.sizeOf9
 v29:=Tryz.zeroValue9
 t32:=Tryz.underlying125
 a32:=Tryz.isAgg125
 z32:=Tryz.sizeOf125
 v32:=Tryz.zeroValue125
 t35:=Tryz.underlying141
 a35:=Tryz.isAgg141
 z35:=Tryz.sizeOf141
 v35:=Tryz.zeroValue141
 t36:=Tryz.underlying142
 a36:=Tryz.isAgg142
 z36:=Tryz.sizeOf142
 v36:=Tryz.zeroValue142
 t41:=Tryz.underlying147
 a41:=Tryz.isAgg147
 z41:=Tryz.sizeOf147
 v41:=Tryz.zeroValue147
 t44:=Tryz.underlying150
 a44:=Tryz.isAgg150
 z44:=Tryz.sizeOf150
 v44:=Tryz.zeroValue150
 t46:=Tryz.underlying152
 a46:=Tryz.isAgg152
 z46:=Tryz.sizeOf152
 v46:=Tryz.zeroValue152
 t53:=Tryz.underlying159
 a53:=Tryz.isAgg159
 z53:=Tryz.sizeOf159
 v53:=Tryz.zeroValue159
 t57:=Tryz.underlying163
 a57:=Tryz.isAgg163
 z57:=Tryz.sizeOf163
 v57:=Tryz.zeroValue163
 t63:=Tryz.underlying181
 a63:=Tryz.isAgg181
 z63:=Tryz.sizeOf181
 v63:=Tryz.zeroValue181
 t64:=Tryz.underlying64
 a64:=Tryz.isAgg64
 z64:=Tryz.sizeOf64
 v64:=Tryz.zeroValue64 }
open Go.RowKit Go.Maps Go.Sort in
theorem Tryz.sorts57 (m:Nat):AnyZ.SortsIn Tryz.prog Tryz.sorted57_ren Fence.wide m :=
 ⟨fun blk off cap ss W hH hblk hsz=>callsIn_wide.2 (AnyM.slices_Sort_string Tryz.sort76 blk off cap ss W hH hblk hsz),
  fun p cap W=>callsIn_wide.2 (AnyM.slices_Sort_string_none Tryz.sort76 p cap W)⟩
open Go.RowKit Go.Maps Go.Sort in
theorem Tryz.maps_Keys_58 (mb:Option Nat) (W:World):CallsIn Fence.wide 5 Tryz.prog 58 #[.map mb] W fun e w'=>e=.returned (.func (.func 77) #[] #[.pointer (some ⟨W.heap.size,0,none⟩)])∧w'=W.alloc (.cells #[.map mb] 58) :=
 AnyZ.keys_in Tryz.keys58 Fence.wide 5 trivial rfl mb W
open Go.RowKit Go.Maps Go.Sort in
theorem Tryz.slices_Sorted_keys_57_58 {H:Type} (b nn:Nat) (D0:DataW H) (R:Value→Option (DataW H×List MemPlace)) (w:World) (hown:w.ownsMap Tryz.prog 9 R b nn D0) (hmax:Maps.size D0≤maxLen) (hbytes:Maps.size D0*16≤140737488355328) :
  CallsIn Fence.wide 5 Tryz.prog 57 #[.func (.func 77) #[] #[.pointer (some ⟨w.heap.size,0,none⟩)]] (w.alloc (.cells #[.map (some b)] 58)) fun e w'=>∃ (v:Value) (ss:List (List UInt8)),e=.returned v∧ss.Perm (strKeys D0) ∧
   w'.ownsRow (w.alloc (.cells #[.map (some b)] 58)).heap.size 9 1 v ss.length ((ss.mergeSort (fun x y=>decide (x≤y))).map encStr)∧(v=.slice none 0 0↔ss=[])∧Below (w.alloc (.cells #[.map (some b)] 58)).heap.size (w.alloc (.cells #[.map (some b)] 58)) w':=by
 have hbl:=hown.lt
 have hseq:SeqGives Fence.wide 2 Tryz.prog 77 #[.pointer (some ⟨w.heap.size,0,none⟩)] encStr (fun ss=>ss.Perm (strKeys D0)) (Maps.size D0) (w.alloc (.cells #[.map (some b)] 58)) :=
  AnyZ.keys_gives (ρ:=Tryz.keys58_ren) { Tryz.keys58 with } Fence.wide _ trivial rfl (by omega) w.heap.size b nn D0 _ (by simp) (by simp) (by
   obtain ⟨es,clock,hb,Ft,hs,hD⟩:=hown
   exact ⟨es,clock,(Below.heap_alloc _ _ b hbl).trans hb,Ft,hs,hD⟩)
 exact AnyZ.sorted_in Tryz.sorted57 Fence.wide 5 trivial trivial trivial trivial rfl (by omega) (Tryz.sorts57 _) (enters_of Tryz.func76 (by kernel_rfl) rfl) 77 #[.pointer (some ⟨w.heap.size,0,none⟩)] trivial (enters_of Tryz.func77 (by kernel_rfl) rfl) _ _ hmax hbytes _ hseq
open Go.RowKit Go.Maps Go.Sort in
theorem Tryz.slices_Sorted_keys_nil_57_58 (w:World) :
  CallsIn Fence.wide 5 Tryz.prog 57 #[.func (.func 77) #[] #[.pointer (some ⟨w.heap.size,0,none⟩)]] (w.alloc (.cells #[.map none] 58)) fun e w'=>∃ (v:Value) (ss:List (List UInt8)),e=.returned v∧ss=[] ∧
   w'.ownsRow (w.alloc (.cells #[.map none] 58)).heap.size 9 1 v ss.length ((ss.mergeSort (fun x y=>decide (x≤y))).map encStr)∧(v=.slice none 0 0↔ss=[])∧Below (w.alloc (.cells #[.map none] 58)).heap.size (w.alloc (.cells #[.map none] 58)) w':=by
 have hseq:SeqGives Fence.wide 2 Tryz.prog 77 #[.pointer (some ⟨w.heap.size,0,none⟩)] encStr (fun ss:List (List UInt8)=>ss=[]) 0 (w.alloc (.cells #[.map none] 58)) :=
  AnyZ.keys_gives_nil (ρ:=Tryz.keys58_ren) { Tryz.keys58 with } Fence.wide _ trivial rfl w.heap.size _ (by simp) (by simp)
 exact AnyZ.sorted_in Tryz.sorted57 Fence.wide 5 trivial trivial trivial trivial rfl (by omega) (Tryz.sorts57 _) (enters_of Tryz.func76 (by kernel_rfl) rfl) 77 #[.pointer (some ⟨w.heap.size,0,none⟩)] trivial (enters_of Tryz.func77 (by kernel_rfl) rfl) _ 0 (Nat.zero_le _) (by omega) _ hseq
end Go.Proofs
namespace Go.Proofs.YtidhgicajlaafaaGreat.MX
open Go Go.RowKit MM Go.Maps EM SM
open SG (PostD postC Tab found sorted_keys)
open RM (rowsE)
def TxtD' (T:List (List UInt8)) (w:World) (e:Ending) (w':World):Prop:=∃ u,e=.returned u∧RAny cStr w' u T∧Below w.heap.size w w'
theorem pos_iff {T:List (EM.Tr PostD)} (hne:∀ t∈T,t.2≠[]) (hr:Rising T) (n:List UInt8):posOf T n≠[]↔n∈T.map (·.1):=by
 constructor
 ·intro h
  exact List.mem_map.2 ⟨_,RM.posOf_some h,rfl⟩
 ·intro h
  obtain ⟨t,ht,rfl⟩:=List.mem_map.1 h
  rw [RM.posOf_mem hr ht]
  exact hne t ht
theorem tab_iff {B mb:Nat} {X:Nat→Prop} {T:List (EM.Tr PostD)} {F:List UInt8→Option Value} {w:World} (h:Tab B mb X T F w) (n:List UInt8):(F n).isSome=true↔n∈T.map (·.1):=by
 rw [← pos_iff h.ne h.rise]
 cases hF:F n with
 | none=>simp [h.none n hF]
 | some v=>simp [(h.own n v hF).2.1]
theorem txts_own {w:World} {base:Nat} {v:Value} {n:Nat} {ns:List (List UInt8)} (h:w.ownsRow base 9 1 v n (ns.map encStr)):RAny cStr w v ns:=by
 have h1:RowIn w.heap.size w v (ns.map fun l=>Value.string ⟨l.toArray⟩):=Row.of_own h
 exact ROn.weak (row_ron (f:=fun l:List UInt8=>Value.string ⟨l.toArray⟩) (hf:=fun _=>rfl) h1 (Nat.le_refl _)) fun _ _ _=>trivial
theorem rterms_at {mb:Nat} {X:Nat→Prop} {T:List (EM.Tr PostD)} {F:List UInt8→Option Value} {w:World} (h:Tab 0 mb X T F w) (hl:T.length≤8000000000000):Calls Tryz.prog 34 #[.map (some mb)] w (TxtD' (T.map (·.1)) w):=by
 obtain ⟨D,hD,hs,hh⟩:=h.map
 have hK:=callsIn_wide.1 (Tryz.maps_Keys_58 (some mb) w)
 have hS:=callsIn_wide.1 (Tryz.slices_Sorted_keys_57_58 mb T.length D R0 w hD (by rw [hs];unfold maxLen;omega) (by rw [hs];omega))
 have HN:=Lib.hid (fun (ss:List (List UInt8)) (hp:ss.Perm (strKeys D))=>sorted_keys hD h.rise (fun n=>by rw [(hh n).1,tab_iff h n]) hp)
 have HK:=Lib.hid hK
 have HS:=Lib.hid hS
 have HB:=Lib.hid (fun o=>(Below.refl w.heap.size w).alloc (Nat.le_refl _) o)
 clear hK hS hD hs hh h
 go_enter Tryz.func34,Tryz.ntmps34
 go_wp2_with fail
 refine HK.out.mono ?_
 rintro e w1 ⟨rfl,hw1⟩
 subst hw1
 go_wp2_with fail
 refine HS.out.mono ?_
 rintro e w2 ⟨v,ss,rfl,hp,hrow,_,hb⟩
 rw [HN.out ss hp] at hrow
 have HF:=Lib.hid (show TxtD' (T.map (·.1)) w (.returned v) w2 from ⟨v,rfl,txts_own hrow,(HB.out _).trans (hb.mono (by simp))⟩)
 clear hp hrow hb
 go_wp2_with fail
 go_ret
 exact HF.out
theorem rterms_nil (w:World):Calls Tryz.prog 34 #[.map none] w (TxtD' [] w):=by
 have HK:=Lib.hid (callsIn_wide.1 (Tryz.maps_Keys_58 none w))
 have HS:=Lib.hid (callsIn_wide.1 (Tryz.slices_Sorted_keys_nil_57_58 w))
 have HB:=Lib.hid (fun o=>(Below.refl w.heap.size w).alloc (Nat.le_refl _) o)
 go_enter Tryz.func34,Tryz.ntmps34
 go_wp2_with fail
 refine HK.out.mono ?_
 rintro e w1 ⟨rfl,hw1⟩
 subst hw1
 go_wp2_with fail
 refine HS.out.mono ?_
 rintro e w2 ⟨v,ss,rfl,rfl,hrow,_,hb⟩
 have HF:=Lib.hid (show TxtD' [] w (.returned v) w2 from ⟨v,rfl,txts_own (ns:=[]) (by simpa using hrow),(HB.out _).trans (hb.mono (by simp))⟩)
 clear hrow hb
 go_wp2_with fail
 go_ret
 exact HF.out
theorem terms_p {w:World} {p:Option Addr} {l:List Doc} {dp:Option Addr} {dn dc:Nat} {mp:Option Nat} {ts:List (List UInt8)} (h:PCell w p l dp dn dc mp) (hc:∀ W,Below w.heap.size w W→Calls Tryz.prog 34 #[.map mp] W (TxtD' ts W)):Calls Tryz.prog 12 #[.pointer p] w (TxtD' ts w):=by
 have HO:=Lib.hid (ornone_p h)
 have HC:=Lib.hid hc
 clear h hc
 go_enter Tryz.func12,Tryz.ntmps12
 go_wp2_with fail
 refine HO.out.mono ?_
 rintro e w1 ⟨rfl,hb⟩
 have HB:=Lib.hid hb
 have HC1:=Lib.hid (HC.out w1 hb)
 unfold ixA
 have f1:=ix_f2 (.int .i64 (l.length:Int)) (.int .i64 (sizeM l:Int)) (.int .i64 (timesM l).1) (.int .i64 (timesM l).2.1) (.int .i64 (seqsM l).1) (.int .i64 (seqsM l).2) (.slice dp dn dc) (.map mp) w1
 clear hb HO HC
 go_wp2_with fail
 refine HC1.out.mono ?_
 rintro e w2 ⟨u,rfl,hu,hb2⟩
 have HQ:=Lib.hid (show TxtD' ts w (.returned u) w2 from ⟨u,rfl,hu,HB.out.trans (hb2.mono HB.out.size)⟩)
 clear hu hb2 HC1
 go_wp2_with fail
 go_ret
 exact HQ.out
theorem terms_idx {A:Nat→Prop} {w:World} {g:Nat} {l:List Doc} (h:Idx A w g l):Calls Tryz.prog 12 #[.pointer (some ⟨g,0,none⟩)] w (TxtD' (termsM (evM l)) w):=by
 have hb:=rows_big h.big
 obtain ⟨dp,dc,mb,X,F,h1,_,h3⟩:=h.cellp
 rw [termsM_rows]
 exact terms_p h1 fun W hW=>rterms_at (h3.tab.below hW) (by omega)
theorem terms_nob {w:World} {p:Option Addr} (h:NobP w p):Calls Tryz.prog 12 #[.pointer p] w (TxtD' [] w):=terms_p h.pcell fun W _=>rterms_nil W
theorem hasPrefix_sel (x s:List UInt8):Lib.hasPrefix x s=selM s false x:=by
 show s.isPrefixOf x=decide (x.take s.length=s)
 rw [Bool.eq_iff_iff,List.isPrefixOf_iff_prefix,decide_eq_true_eq]
 exact ⟨fun h=>(List.prefix_iff_eq_take.1 h).symm,fun h=>List.prefix_iff_eq_take.2 h.symm⟩
end Go.Proofs.YtidhgicajlaafaaGreat.MX
namespace Go.Proofs.YtidhgicajlaafaaGreat.MX
open Go Go.RowKit MM Go.Maps EM SM
open SG (PostD postC postE Tab found)
structure FkT (n0 mb c:Nat) (T:List (EM.Tr PostD)) (X:Nat→Prop) (seen:List UInt8→Bool) (F:List UInt8→Option Value) (w:World):Prop where
 map:∃ m,m≤c∧MapV w mb m F
 hi:∀ b,X b→n0≤b∧b<w.heap.size∧b≠mb
 is:∀ s,(F s).isSome=seen s
 own:∀ s v,F s=some v→OwnS postC 75 X w v (posOf T s)∧∀ g,v.ownBlock=some g→n0≤g∧g≠mb
 apart:∀ s t u v g,F s=some u→F t=some v→u.ownBlock=some g→v.ownBlock=some g→s=t
variable {n0 mb c : Nat} {T : List (EM.Tr PostD)} {X : Nat → Prop} {seen : List UInt8 → Bool} {F : List UInt8 → Option Value} {w w' : World}
theorem FkT.lt (h:FkT n0 mb c T X seen F w):mb<w.heap.size:=by
 obtain ⟨m,_,hm⟩:=h.map
 exact hm.lt
theorem FkT.keep {S:Nat→Prop} (h:FkT n0 mb c T X seen F w) (hk:Kep S w w') (hSm:S mb) (hS:∀ b,n0≤b→S b):FkT n0 mb c T X seen F w':=by
 obtain ⟨m,hm,hv⟩:=h.map
 exact ⟨⟨m,hm,hv.kep hk hSm⟩,fun b hb=>⟨(h.hi b hb).1,Nat.lt_of_lt_of_le (h.hi b hb).2.1 hk.size,(h.hi b hb).2.2⟩,h.is,
  fun s v hf=>⟨(h.own s v hf).1.keep hk (fun b _ hb=>hS b (h.hi b hb).1) fun g hg=>hS g ((h.own s v hf).2 g hg).1,(h.own s v hf).2⟩,h.apart⟩
theorem FkT.below (h:FkT n0 mb c T X seen F w) (hb:Below w.heap.size w w'):FkT n0 mb c T X seen F w':=h.keep (kep_below (fun _=>True) hb) trivial fun _ _=>trivial
theorem FkT.made (w:World) (n0:Nat) (T:List (EM.Tr PostD)):FkT n0 w.heap.size 0 T (fun _=>False) (fun _=>false) (fun _=>Option.none) (w.alloc (.map #[] 0)) :=
 ⟨⟨0,Nat.le_refl _,MapV.made w⟩,fun _ h=>h.elim,fun _=>rfl,fun _ _ h=>(by cases h),fun _ _ _ _ _ h=>(by cases h)⟩
theorem FkT.put {w1 w2:World} {s:List UInt8} {u:Value} {n:Nat} (h:FkT n0 mb c T X seen F w) (hb:Below w.heap.size w w1) (hn0:n0≤w.heap.size)
  (hn:w.heap.size≤n) (hgn:∀ g,u.ownBlock=some g→g<n) (ho:OwnX postC 75 w.heap.size (fun b=>n≤b) w1 u (posOf T s))
  (hm:∃ m,m≤c+1∧MapV w2 mb m (fun k=>if k=s then some u else F k)) (hk2:Kep (fun k=>k≠mb) w1 w2) :
  FkT n0 mb (c+1) T (fun b=>X b∨(n≤b∧b<w1.heap.size)) (fun k=>seen k||decide (k=s)) (fun k=>if k=s then some u else F k) w2:=by
 have hlt:=h.lt
 have hX:∀ b,X b∨(n≤b∧b<w1.heap.size)→n0≤b∧b<w1.heap.size∧b≠mb:=fun b hb'=>by
  rcases hb' with h1 | h1
  ·have h2:=h.hi b h1;have:=hb.size;exact ⟨h2.1,by omega,h2.2.2⟩
  ·exact ⟨by omega,h1.2,by omega⟩
 have hug:∀ g,u.ownBlock=some g→w.heap.size≤g∧g<n:=fun g hg=>⟨(ho.cells hg).1,hgn g hg⟩
 refine ⟨hm,fun b hb'=>⟨(hX b hb').1,Nat.lt_of_lt_of_le (hX b hb').2.1 hk2.size,(hX b hb').2.2⟩,fun k => ?_,fun t v hv => ?_,fun t t' v v' g hv hv' h1 h2 => ?_⟩
 ·by_cases e:k=s
  ·rw [if_pos e,decide_eq_true e,Bool.or_true];rfl
  ·rw [if_neg e,decide_eq_false e,Bool.or_false];exact h.is k
 ·by_cases e:t=s
  ·rw [if_pos e] at hv
   obtain rfl:=Option.some.inj hv
   subst e
   obtain ⟨raw,g1,g2⟩:=ho
   have hos:OwnS postC 75 (fun b=>X b∨(n≤b∧b<w1.heap.size)) w1 u (posOf T t):=by
    refine ⟨raw,⟨g1.1,?_⟩,g2.keep (Kep.refl _ _) fun b hlt' hb'=>.inr ⟨hb',hlt'⟩,fun g hg hx => ?_⟩
    ·rcases g1.2 with h | ⟨g,cap,cur,hv,hg,rest⟩
     ·exact .inl h
     ·exact .inr ⟨g,cap,cur,hv,Nat.zero_le _,rest⟩
    ·have h3:=hug g hg
     rcases hx with hx | hx
     ·have:=(h.hi g hx).2.1;omega
     ·omega
   exact ⟨hos.keep hk2 (fun b _ hb'=>(hX b hb').2.2) fun g hg=>by have:=hug g hg;omega,fun g hg=>by have:=hug g hg;exact ⟨by omega,by omega⟩⟩
  ·rw [if_neg e] at hv
   obtain ⟨h1,h2⟩:=h.own t v hv
   have h3:=(h1.keep (kep_below (fun _=>True) hb) (fun _ _ _=>trivial) fun _ _=>trivial).weak (T:=fun b=>X b∨(n≤b∧b<w1.heap.size)) (fun b _ hb'=>.inl hb') fun g hg hx=>by
    have h4:=OwnS.lt h1 g hg
    rcases hx with hx | hx
    ·exact h4.2 hx
    ·omega
   exact ⟨h3.keep hk2 (fun b _ hb'=>(hX b hb').2.2) fun g hg=>(h2 g hg).2,h2⟩
 ·by_cases e:t=s
  ·by_cases e':t'=s
   ·rw [e,e']
   ·rw [if_pos e] at hv
    rw [if_neg e'] at hv'
    obtain rfl:=Option.some.inj hv
    have h3:=(OwnS.lt (h.own t' v' hv').1 g h2).1
    have:=hug g h1
    omega
  ·by_cases e':t'=s
   ·rw [if_neg e] at hv
    rw [if_pos e'] at hv'
    obtain rfl:=Option.some.inj hv'
    have h3:=(OwnS.lt (h.own t v hv).1 g h1).1
    have:=hug g h2
    omega
   ·rw [if_neg e] at hv
    rw [if_neg e'] at hv'
    exact h.apart t t' v v' g hv hv' h1 h2
theorem RangeV.cnt_le {w:World} {mb r m cnt:Nat} {F:List UInt8→Option Value} {left:List UInt8→Bool} (h:RangeV w mb r m F left cnt):cnt≤m:=by
 obtain ⟨D,lf,⟨es,clock,since,seen,c0,_,_,h1,_,_,_,h2,_⟩,_⟩:=h
 rw [← h2]
 exact Nat.le_trans Array.size_filter_le h1
theorem map_size {w:World} {mb m:Nat} {F:List UInt8→Option Value} (h:MapV w mb m F) (hr:Rising T) (hh:∀ n,(F n).isSome=true↔n∈T.map (·.1)):m=T.length:=by
 obtain ⟨D,hD,hs,hF⟩:=h
 have h1:=SG.sorted_keys hD hr (fun n=>by rw [(hF n).1,hh]) (List.Perm.refl _)
 have h2:=congrArg List.length h1
 rw [List.length_mergeSort,List.length_map] at h2
 obtain ⟨es,rfl,_⟩:=hD.entries strKeyed
 have h3:(strKeys (.map es)).length=es.length:=by show (es.map _).length=_;rw [List.length_map]
 have h4:Maps.size (DataW.map es)=es.length:=rfl
 omega
theorem FkT.rows {mb0:Nat} {X0:Nat→Prop} {F0:List UInt8→Option Value} {w0:World} {q:Nat} (h:FkT n0 mb c T X seen F w) (h0:Tab 0 mb0 X0 T F0 w0) (hs:∀ s,seen s=(F0 s).isSome) (hq:q≤n0) (hm:q≤mb):RowsU (fun b=>q≤b∧b<w.heap.size) mb T X F w:=by
 obtain ⟨m,_,hv⟩:=h.map
 have hi:∀ s,(F s).isSome=(F0 s).isSome:=fun s=>by rw [h.is,hs]
 have e:=map_size hv h0.rise fun n=>by rw [hi,tab_iff h0]
 subst e
 refine ⟨⟨hv,Nat.zero_le _,fun b hb=>(h.hi b hb).2,fun s hn=>h0.none s ?_,fun s v hv=>⟨(h.own s v hv).1,(h0.some_iff s).1 (by rw [← hi,hv];rfl),fun g hg=>⟨Nat.zero_le _,((h.own s v hv).2 g hg).2⟩⟩,h.apart,h0.rise,h0.ne⟩,
  ⟨hm,h.lt⟩,fun s v g hv hg=>⟨by have:=((h.own s v hv).2 g hg).1;omega,(OwnS.lt (h.own s v hv).1 g hg).1⟩,fun b hb=>⟨by have:=(h.hi b hb).1;omega,(h.hi b hb).2.1⟩⟩
 have:=hi s
 rw [hn] at this
 cases hF:F0 s with
 | none=>rfl
 | some v=>rw [hF] at this;cases this
end Go.Proofs.YtidhgicajlaafaaGreat.MX
namespace Go.Proofs.YtidhgicajlaafaaGreat.MX
open Go Go.RowKit MM EV
section
variable {e : TypeId} {B g cap m : Nat} {v : Value} {zs : List Int} {w w' : World}
theorem flat_one (f:Int→Value):∀ l:List Int,(l.map fun z=>[f z]).flatten=l.map f
 | []=>rfl
 | x::l=>by rw [List.map_cons,List.flatten_cons,flat_one f l];rfl
theorem own_introw (h:OwnC cInt e B w v zs):w.ownsRow B e 1 v zs.length (zs.map (Value.int .i64)):=by
 obtain ⟨raw,h1,h2⟩:=h
 have e1:raw=zs.map fun z=>[Value.int .i64 z]:=List.ext_getElem (by rw [List.length_map,h2.1]) fun i hi hi'=>by
  rw [List.getElem_map]
  exact h2.2 i hi (by rw [← h2.1];exact hi)
 rw [e1,flat_one] at h1
 exact h1
theorem introw_own (h:w.ownsRow B e 1 v zs.length (zs.map (Value.int .i64))):OwnC cInt e B w v zs :=
 ⟨zs.map fun z=>[Value.int .i64 z],by rw [flat_one];exact h,by rw [List.length_map],fun i hi hi'=>by
  rw [List.getElem_map]
  exact (rfl:[Value.int .i64 zs[i]]=[Value.int .i64 zs[i]])⟩
theorem row_ints {S:Nat→Prop} {raw:List (List Value)} (h:Mean cInt S w raw zs):raw.flatten=zs.map (Value.int .i64):=by
 have e1:raw=zs.map fun z=>[Value.int .i64 z]:=List.ext_getElem (by rw [List.length_map,h.1]) fun i hi hi'=>by
  rw [List.getElem_map]
  exact h.2 i hi (by rw [← h.1];exact hi)
 rw [e1,flat_one]
theorem wp_append_ci {o:Oper} {a:Act} {K:Act→World→Prop} {Q:Exit→Act→World→Prop} (s x:Operand)
  (ho:o.op=.call { callee:=.builtin .append,args:=#[s,x],argTypes:=#[73,73] }) (B:Nat) (v:Value) (es:List Int) (hs:a.eval s=v) (hown:OwnC cInt 3 B w v es)
  (u:Value) (zs:List Int) (hx:a.eval x=u) (hr:RAny cInt w u zs) (hne:zs≠[]) (hlen:es.length+zs.length≤10000000) (hbase:B≤w.heap.size)
  (h:∀ v' w',OwnC cInt 3 B w' v' (es++zs)→Kep (fun k=>v.ownBlock≠some k) w w'→(∀ g,v'.ownBlock=some g→v.ownBlock=some g∨w.heap.size≤g)→K (a.put o.dst v') w'):o.wp Tryz.prog a w K Q:=by
 obtain ⟨p,cap,raw,rfl,_,_,_,hm,hc⟩:=hr
 rcases hc with hc | ⟨b,off,rfl,_,_,hcell⟩
 ·exact absurd hc hne
 obtain ⟨i,z,hi,hz,hsz,hbt,hzs⟩:=(intE).info
 have h1:=own_introw hown
 have hpos:0<zs.length:=List.length_pos_iff.2 hne
 refine wp_append_lies _ s x 73 ho B 3 i z 1 8 (intE).under hi hz hsz hbt hzs (by omega) v es.length _ hs h1 ⟨b,off,none⟩ zs.length cap (zs.map (Value.int .i64)) hx (by rw [List.length_map,Nat.mul_one]) (fun j q hj => ?_) (fun q hq => ?_) hpos (by unfold maxLen;omega) (by omega) hbase _ rfl (fun g cap2 w' h4 hg hwhere _ => ?_)
 ·rw [add_at]
  exact hcell j q (by rw [row_ints hm];exact hj)
 ·obtain ⟨z,_,rfl⟩:=List.mem_map.1 hq
  rfl
 ·refine h _ w' (introw_own ?_) (kep_grown hg fun k hk hn=>hn hk) fun g' hgb => ?_
  ·rw [List.length_append,List.map_append]
   exact h4
  ·have:g=g':=Option.some.inj hgb
   subst this
   exact hwhere.imp id fun h5=>by omega
end
end Go.Proofs.YtidhgicajlaafaaGreat.MX
