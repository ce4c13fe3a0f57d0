import Derived.Shelf.SlIter.Nil
import Derived.Shelf.SortM.SortNone
import Derived.Test.YtdijhifdjbnkfaaGreatZD33
import Derived.Test.YtdijhifdjbnkfaaGreatZD35
import Derived.Test.YtdijhifdjbnkfaaGreatZD37
import Derived.Test.YtdijhifdjbnkfaaGreatZD41
import Derived.Test.YtdijhifdjbnkfaaGreatZD21
import Derived.Deep.OwnRows
set_option maxRecDepth 100000
set_option maxHeartbeats 8000000
set_option linter.unusedVariables false
set_option linter.unusedSimpArgs false
namespace Go.Proofs.YtdijhifdjbnkfaaGreat.SG
open Go Go.RowKit MM Go.Maps SM
open EM (Znl Znp Zbl Zrf)
theorem Znu:∀ (a b:List UInt8),Znl a b=true→a<b
 | [],[],h=>by simp [Znl] at h
 | [],b::t,_=>List.nil_lt_cons b t
 | _::_,[],h=>by simp [Znl] at h
 | a::s,b::t,h=>by
   unfold Znl at h
   rw [List.cons_lt_cons_iff]
   by_cases e:a=b
   ·rw [if_pos e] at h
    exact .inr ⟨e,Znu s t h⟩
   ·rw [if_neg e] at h
    exact .inl (UInt8.lt_iff_toNat_lt.2 (of_decide_eq_true h))
theorem Zwc {α:Type} {T:List (EM.Tr α)} {D:DataW Value} {w:World} {mb m:Nat} {R:Value→Option (DataW Value×List MemPlace)} (hown:w.ownsMap Tryz.prog 9 R mb m D) (hr:Zbl T) (hh:∀ n,Maps.has D (.string n)=true↔n∈T.map (·.1)) {ss:List (List UInt8)}
  (hs:ss.Perm (strKeys D)):ss.mergeSort (fun x y=>decide (x≤y))=T.map (·.1):=by
 obtain ⟨es,rfl,hp,_⟩:=hown.entries ZwB
 have hk:∀ p∈es,∃ x,p.1=.string x:=by
  obtain ⟨es',he,hko⟩:=hown.keysOf
  have he:es=es':=by simpa using he
  subst he
  intro p hpm
  obtain ⟨v,hv⟩:=hko p hpm
  obtain ⟨x,_,hx,_⟩:=Maps.keyOf_str Tryz.underlying9 hv
  exact ⟨x,hx⟩
 have hpair:(T.map (·.1)).Pairwise (fun a b=>Znl a b=true):=by
  rw [List.pairwise_map]
  exact hr
 have hnd:(T.map (·.1)).Nodup:=hpair.imp fun {a b} h e=>by
  rw [e,Znp] at h
  cases h
 have hperm:(T.map (·.1)).Perm (strKeys (.map es)):=perm_strKeys hp hk hnd fun x=>(hh x).symm
 have h1:=mergeSort_of_perm (hs.trans hperm.symm)
 have h2:(T.map (·.1)).mergeSort leB=T.map (·.1):=by
  have tr:∀ a b c:List UInt8,leB a b=true→leB b c=true→leB a c=true:=fun a b c h1 h2=>by simp only [leB,decide_eq_true_eq] at *;exact List.le_trans h1 h2
  have to:∀ a b:List UInt8,(leB a b||leB b a)=true:=fun a b=>by simp only [leB,Bool.or_eq_true,decide_eq_true_eq];exact List.le_total a b
  refine List.Perm.eq_of_pairwise (le:=fun a b=>leB a b=true) (fun a b _ _ q1 q2 => ?_) (List.pairwise_mergeSort tr to _) (hpair.imp fun {a b} h => ?_) (List.mergeSort_perm _ leB)
  ·simp only [leB,decide_eq_true_eq] at q1 q2
   exact List.le_antisymm q1 q2
  ·simp only [leB,decide_eq_true_eq]
   exact List.le_of_lt (Znu a b h)
 exact h1.trans h2
end Go.Proofs.YtdijhifdjbnkfaaGreat.SG
namespace Go.Proofs
open Go.Shelf
def Tryz.keys77_ren:Go.Shelf.Ren:=⟨fun | 7=>77 | 10=>128 | n=>n,fun | 23=>136 | 26=>9 | 3=>47 | 28=>141 | 0=>0 | 27=>140 | 33=>50 | 4=>4 | n=>n,fun | n=>n⟩
theorem Tryz.keys77:Go.Proofs.SlLaysZ.n7 Tryz.prog Tryz.keys77_ren:={
 mixed:=by kernel_rfl
 f7:=⟨Tryz.f77.name,by decide,Tryz.func77.trans (congrArg some (by kernel_rfl))⟩
 f10:=⟨Tryz.f128.name,by decide,Tryz.func128.trans (congrArg some (by kernel_rfl))⟩
 t0:=Tryz.underlying0
 a0:=Tryz.isAgg0
 z0:=Tryz.sizeOf0
 v0:=Tryz.zeroValue0
 t4:=Tryz.underlying4
 a4:=Tryz.isAgg4
 z4:=Tryz.sizeOf4
 v4:=Tryz.zeroValue4
 t23:=Tryz.underlying136
 a23:=Tryz.isAgg136
 z23:=Tryz.sizeOf136
 v23:=Tryz.zeroValue136
 t26:=Tryz.underlying9
 a26:=Tryz.isAgg9
 z26:=Tryz.sizeOf9
 v26:=Tryz.zeroValue9
 t27:=Tryz.underlying140
 a27:=Tryz.isAgg140
 z27:=Tryz.sizeOf140
 v27:=Tryz.zeroValue140
 t28:=Tryz.underlying141
 a28:=Tryz.isAgg141
 z28:=Tryz.sizeOf141
 v28:=Tryz.zeroValue141
 t33:=Tryz.underlying50
 a33:=Tryz.isAgg50
 z33:=Tryz.sizeOf50
 v33:=Tryz.zeroValue50 }
def Tryz.sorted76_ren:Go.Shelf.Ren:=⟨fun | 6=>76 | 8=>126 | 9=>127 | 11=>186 | 13=>188 | 12=>187 | 23=>237 | 24=>238 | 14=>228 | 15=>229 | 16=>230 | 17=>231 | 18=>232 | 19=>233 | 20=>234 | 21=>235 | 22=>236 | 25=>258 | 26=>259 | 27=>260 | 28=>261 | 29=>262 | 30=>227 | 31=>275 | n=>n,fun | 26=>9 | 28=>141 | 24=>40 | 0=>0 | 3=>3 | 37=>185 | 48=>183 | 50=>180 | 4=>4 | 40=>297 | 39=>296 | 45=>289 | 5=>5 | 9=>9 | 51=>317 | 55=>321 | 57=>331 | 58=>261 | 33=>50 | n=>n,fun | n=>n⟩
theorem Tryz.sorted76:Go.Proofs.SlLaysZ.n6 Tryz.prog Tryz.sorted76_ren:={
 mixed:=by kernel_rfl
 f6:=⟨Tryz.f76.name,by decide,Tryz.func76.trans (congrArg some (by kernel_rfl))⟩
 f8:=⟨Tryz.f126.name,by decide,Tryz.func126.trans (congrArg some (by kernel_rfl))⟩
 f11:=⟨Tryz.f186.name,by decide,Tryz.func186.trans (congrArg some (by kernel_rfl))⟩
 t0:=Tryz.underlying0
 a0:=Tryz.isAgg0
 z0:=Tryz.sizeOf0
 v0:=Tryz.zeroValue0
 t24:=Tryz.underlying40
 a24:=Tryz.isAgg40
 z24:=Tryz.sizeOf40
 v24:=Tryz.zeroValue40
 t26:=Tryz.underlying9
 a26:=Tryz.isAgg9
 z26:=Tryz.sizeOf9
 v26:=Tryz.zeroValue9
 t28:=Tryz.underlying141
 a28:=Tryz.isAgg141
 z28:=Tryz.sizeOf141
 v28:=Tryz.zeroValue141
 i26:=by kernel_rfl }
def Tryz.sort127_ren:Go.Shelf.Ren:=⟨fun | 6=>127 | 8=>188 | 9=>187 | 19=>237 | 20=>238 | 21=>228 | 22=>229 | 23=>230 | 24=>231 | 25=>232 | 26=>233 | 27=>234 | 28=>235 | 29=>236 | 36=>258 | 31=>259 | 32=>260 | 37=>261 | 38=>262 | 39=>227 | 41=>275 | n=>n,fun | 27=>40 | 29=>9 | 3=>3 | 32=>185 | 26=>40 | 0=>0 | 44=>183 | 46=>180 | 4=>4 | 36=>297 | 35=>296 | 41=>289 | 5=>5 | 9=>9 | 53=>317 | 57=>321 | 63=>331 | 64=>261 | n=>n,fun | n=>n⟩
theorem Tryz.sort127:Go.Proofs.SlLaysM.n6 Tryz.prog Tryz.sort127_ren:={
 mixed:=by kernel_rfl
 f6:=⟨Tryz.f127.name,by decide,Tryz.func127.trans (congrArg some (by kernel_rfl))⟩
 f8:=Tryz.func188.trans (congrArg some (by kernel_rfl))
 f9:=⟨Tryz.f187.name,by decide,Tryz.func187.trans (congrArg some (by kernel_rfl))⟩
 f19:=Tryz.func237.trans (congrArg some (by kernel_rfl))
 f20:=Tryz.func238.trans (congrArg some (by kernel_rfl))
 f21:=⟨Tryz.f228.name,by decide,Tryz.func228.trans (congrArg some (by kernel_rfl))⟩
 f22:=⟨Tryz.f229.name,by decide,Tryz.func229.trans (congrArg some (by kernel_rfl))⟩
 f23:=⟨Tryz.f230.name,by decide,Tryz.func230.trans (congrArg some (by kernel_rfl))⟩
 f24:=⟨Tryz.f231.name,by decide,Tryz.func231.trans (congrArg some (by kernel_rfl))⟩
 f25:=⟨Tryz.f232.name,by decide,Tryz.func232.trans (congrArg some (by kernel_rfl))⟩
 f26:=⟨Tryz.f233.name,by decide,Tryz.func233.trans (congrArg some (by kernel_rfl))⟩
 f27:=⟨Tryz.f234.name,by decide,Tryz.func234.trans (congrArg some (by kernel_rfl))⟩
 f28:=⟨Tryz.f235.name,by decide,Tryz.func235.trans (congrArg some (by kernel_rfl))⟩
 f29:=⟨Tryz.f236.name,by decide,Tryz.func236.trans (congrArg some (by kernel_rfl))⟩
 f31:=Tryz.func259.trans (congrArg some (by kernel_rfl))
 f32:=Tryz.func260.trans (congrArg some (by kernel_rfl))
 f36:=⟨Tryz.f258.name,by decide,Tryz.func258.trans (congrArg some (by kernel_rfl))⟩
 f37:=⟨Tryz.f261.name,by decide,Tryz.func261.trans (congrArg some (by kernel_rfl))⟩
 f38:=⟨Tryz.f262.name,by decide,Tryz.func262.trans (congrArg some (by kernel_rfl))⟩
 f39:=⟨Tryz.f227.name,by decide,Tryz.func227.trans (congrArg some (by kernel_rfl))⟩
 f41:=⟨Tryz.f275.name,by decide,Tryz.func275.trans (congrArg some (by kernel_rfl))⟩
 t0:=Tryz.underlying0
 a0:=Tryz.isAgg0
 z0:=Tryz.sizeOf0
 v0:=Tryz.zeroValue0
 t3:=Tryz.underlying3
 a3:=Tryz.isAgg3
 z3:=Tryz.sizeOf3
 v3:=Tryz.zeroValue3
 t4:=Tryz.underlying4
 a4:=Tryz.isAgg4
 z4:=Tryz.sizeOf4
 v4:=Tryz.zeroValue4
 t5:=Tryz.underlying5
 a5:=Tryz.isAgg5
 z5:=Tryz.sizeOf5
 v5:=Tryz.zeroValue5
 t9:=Tryz.underlying9
 a9:=Tryz.isAgg9
 z9:=Tryz.sizeOf9
 v9:=Tryz.zeroValue9
 t26:=Tryz.underlying40
 a26:=Tryz.isAgg40
 z26:=Tryz.sizeOf40
 v26:=Tryz.zeroValue40
 t27:=Tryz.underlying40
 a27:=Tryz.isAgg40
 z27:=Tryz.sizeOf40
 v27:=Tryz.zeroValue40
 t29:=Tryz.underlying9
 a29:=Tryz.isAgg9
 z29:=Tryz.sizeOf9
 v29:=Tryz.zeroValue9
 t32:=Tryz.underlying185
 a32:=Tryz.isAgg185
 z32:=Tryz.sizeOf185
 v32:=Tryz.zeroValue185
 t35:=Tryz.underlying296
 a35:=Tryz.isAgg296
 z35:=Tryz.sizeOf296
 v35:=Tryz.zeroValue296
 t36:=Tryz.underlying297
 a36:=Tryz.isAgg297
 z36:=Tryz.sizeOf297
 v36:=Tryz.zeroValue297
 t41:=Tryz.underlying289
 a41:=Tryz.isAgg289
 z41:=Tryz.sizeOf289
 v41:=Tryz.zeroValue289
 t44:=Tryz.underlying183
 a44:=Tryz.isAgg183
 z44:=Tryz.sizeOf183
 v44:=Tryz.zeroValue183
 t46:=Tryz.underlying180
 a46:=Tryz.isAgg180
 z46:=Tryz.sizeOf180
 v46:=Tryz.zeroValue180
 t53:=Tryz.underlying317
 a53:=Tryz.isAgg317
 z53:=Tryz.sizeOf317
 v53:=Tryz.zeroValue317
 t57:=Tryz.underlying321
 a57:=Tryz.isAgg321
 z57:=Tryz.sizeOf321
 v57:=Tryz.zeroValue321
 t63:=Tryz.underlying331
 a63:=Tryz.isAgg331
 z63:=Tryz.sizeOf331
 v63:=Tryz.zeroValue331
 t64:=Tryz.underlying261
 a64:=Tryz.isAgg261
 z64:=Tryz.sizeOf261
 v64:=Tryz.zeroValue261 }
open Go.RowKit Go.Maps Go.Sort in
theorem Tryz.sorts76 (m:Nat):AnyZ.SortsIn Tryz.prog Tryz.sorted76_ren Fence.wide m :=
 ⟨fun blk off cap ss W hH hblk hsz=>callsIn_wide.2 (AnyM.slices_Sort_string Tryz.sort127 blk off cap ss W hH hblk hsz),
  fun p cap W=>callsIn_wide.2 (AnyM.slices_Sort_string_none Tryz.sort127 p cap W)⟩
open Go.RowKit Go.Maps Go.Sort in
theorem Tryz.maps_Keys_77 (mb:Option Nat) (W:World):CallsIn Fence.wide 5 Tryz.prog 77 #[.map mb] W fun e w'=>e=.returned (.func (.func 128) #[] #[.pointer (some ⟨W.heap.size,0,none⟩)])∧w'=W.alloc (.cells #[.map mb] 136) :=
 AnyZ.keys_in Tryz.keys77 Fence.wide 5 trivial rfl mb W
open Go.RowKit Go.Maps Go.Sort in
theorem Tryz.slices_Sorted_keys_76_77 {H:Type} (b nn:Nat) (D0:DataW H) (R:Value→Option (DataW H×List MemPlace)) (w:World) (hown:w.ownsMap Tryz.prog 9 R b nn D0) (hmax:Maps.size D0≤maxLen) (Zk8:Maps.size D0*16≤140737488355328) :
  CallsIn Fence.wide 5 Tryz.prog 76 #[.func (.func 128) #[] #[.pointer (some ⟨w.heap.size,0,none⟩)]] (w.alloc (.cells #[.map (some b)] 136)) fun e w'=>∃ (v:Value) (ss:List (List UInt8)),e=.returned v∧ss.Perm (strKeys D0) ∧
   w'.ownsRow (w.alloc (.cells #[.map (some b)] 136)).heap.size 9 1 v ss.length ((ss.mergeSort (fun x y=>decide (x≤y))).map encStr)∧(v=.slice none 0 0↔ss=[])∧Below (w.alloc (.cells #[.map (some b)] 136)).heap.size (w.alloc (.cells #[.map (some b)] 136)) w':=by
 have hbl:=hown.lt
 have hseq:SeqGives Fence.wide 2 Tryz.prog 128 #[.pointer (some ⟨w.heap.size,0,none⟩)] encStr (fun ss=>ss.Perm (strKeys D0)) (Maps.size D0) (w.alloc (.cells #[.map (some b)] 136)) :=
  AnyZ.keys_gives (ρ:=Tryz.keys77_ren) { Tryz.keys77 with } Fence.wide _ trivial rfl (by omega) w.heap.size b nn D0 _ (by simp) (by simp) (by
   obtain ⟨es,clock,hb,Ft,hs,hD⟩:=hown
   exact ⟨es,clock,(Below.heap_alloc _ _ b hbl).trans hb,Ft,hs,hD⟩)
 exact AnyZ.sorted_in Tryz.sorted76 Fence.wide 5 trivial trivial trivial trivial rfl (by omega) (Tryz.sorts76 _) (enters_of Tryz.func127 (by kernel_rfl) rfl) 128 #[.pointer (some ⟨w.heap.size,0,none⟩)] trivial (enters_of Tryz.func128 (by kernel_rfl) rfl) _ _ hmax Zk8 _ hseq
end Go.Proofs
namespace Go.Proofs.YtdijhifdjbnkfaaGreat.SG
open Go Go.RowKit MM Go.Maps
open EV (docC fldC)
open SM (Doc isS FitS)
open GM (Zbs Zv7 sumW Zvz Zuv Zrw ZhC ZxI Ziw Zjr Zjt)
open CR (PRow)
open DM (encD)
open EM (Zrf)
def Zbp (L:List (List UInt8)) (w:World) (e:Ending) (w':World):Prop:=∃ v,e=.returned (.tuple #[v,.int .i64 0])∧PRow w' v L∧Below w.heap.size w w'
theorem Zri {α:Type} {T:List (EM.Tr α)} (h:∀ t∈T,t.2≠[]) (s:List UInt8):Zrf T s≠[]↔s∈T.map (·.1):=by
 constructor
 ·exact EV.Zrl
 ·intro hm e
  induction T with
  | nil=>simp at hm
  | cons t T ih =>
    rw [Zrf] at e
    by_cases hs:t.1=s
    ·rw [if_pos hs] at e
     exact h t (by simp) e
    ·rw [if_neg hs] at e
     rw [List.map_cons,List.mem_cons] at hm
     exact ih (fun u hu=>h u (List.mem_cons_of_mem _ hu)) (hm.resolve_left fun h=>hs h.symm) e
theorem Zn0:∀ (l:List Doc) (a:Int),(-9223372036854775808≤a∧a≤9223372036854775807)→FitS l → -9223372036854775808≤lowC a l∧lowC a l≤9223372036854775807
 | [],a,h,_=>h
 | d::l,a,h,hf=>by
   have hd:=hf d (by simp)
   unfold EM.FitE at hd
   exact Zn0 l (min a d.2.1) ⟨by omega,by omega⟩ fun x hx=>hf x (List.mem_cons_of_mem _ hx)
theorem ZlN:∀ (l:List Doc) (a:Int),(-9223372036854775808≤a∧a≤9223372036854775807)→FitS l → -9223372036854775808≤ZlL a l∧ZlL a l≤9223372036854775807
 | [],a,h,_=>h
 | d::l,a,h,hf=>by
   have hd:=hf d (by simp)
   unfold EM.FitE at hd
   exact ZlN l (max a d.2.1) ⟨by omega,by omega⟩ fun x hx=>hf x (List.mem_cons_of_mem _ hx)
theorem Zjx {l:List Doc} (hS:isS l=true) (hf:FitS l) (h0:l≠[]):∀ z∈[(Zjt l).1,(Zjt l).2.1,(Zjt l).2.2.1,(Zjt l).2.2.2.1,((Zjt l).2.2.2.2:Int)], -9223372036854775808≤z∧z≤9223372036854775807:=by
 have hn:=List.length_pos_iff.2 h0
 obtain ⟨n,hnn⟩:∃ n,l.length=n+1:=⟨l.length - 1,by omega⟩
 have hl:=(SM.ZmH.1 hS).1
 have e0:=SM.ZmG hS (k:=0) (by omega)
 have en:=SM.ZmG hS (k:=n) (by omega)
 have p0:=SM.Znb hS (k:=0) (by omega)
 have pn:=SM.Znb hS (k:=n) (by omega)
 have d0:=hf l[0] (List.getElem_mem _)
 have h1:=Zn0 l l[0].2.1 d0 hf
 have h2:=ZlN l l[0].2.1 d0 hf
 rw [Zjv hnn]
 intro z hz
 simp only [List.mem_cons,List.not_mem_nil,or_false] at hz
 rcases hz with rfl | rfl | rfl | rfl | rfl
 ·exact h1
 ·exact h2
 ·exact ⟨by omega,by omega⟩
 ·exact ⟨by omega,by omega⟩
 ·exact ⟨by omega,by omega⟩
theorem ZrN {w:World} {g:Nat} {c0 c1 c2 c3 c4 c5:Value} {l0 l1 l2 l3 l4 l5:List UInt8} (h:w.heap[g]? = some (.cells #[c0,c1,c2,c3,c4,c5] 23 (0,0))) (r0:BRow w c0 l0) (r1:BRow w c1 l1) (r2:BRow w c2 l2) (r3:BRow w c3 l3) (r4:BRow w c4 l4) (r5:BRow w c5 l5) :
  PRow w (.slice (some ⟨g,0,none⟩) 6 6) [l0,l1,l2,l3,l4,l5]:=by
 refine ⟨[c0,c1,c2,c3,c4,c5],⟨_,_,rfl,Nat.le_refl _,by unfold maxLen;simp,(fun e=>by cases e),.inr ⟨g,0,rfl,(Array.getElem?_eq_some_iff.1 h).1,fun i u hi => ?_⟩⟩,rfl,fun i hi => ?_⟩
 ·rw [Nat.zero_add,Zud h i]
  simpa using hi
 ·match i,hi with
  | 0,_=>exact ⟨_,rfl,r0⟩
  | 1,_=>exact ⟨_,rfl,r1⟩
  | 2,_=>exact ⟨_,rfl,r2⟩
  | 3,_=>exact ⟨_,rfl,r3⟩
  | 4,_=>exact ⟨_,rfl,r4⟩
  | 5,_=>exact ⟨_,rfl,r5⟩
theorem Zof (W:World):(Instr.makeSlice 92 (.int .i64 6) (.int .i64 6)).run Tryz.prog W=.ok (.slice (some ⟨W.heap.size,0,none⟩) 6 6) (W.alloc (.cells #[.slice none 0 0,.slice none 0 0,.slice none 0 0,.slice none 0 0,.slice none 0 0,.slice none 0 0] 23)):=by
 have h:=run_make_row' (P:=Tryz.prog) 92 23 (.slice none 0 0) 24 Tryz.underlying92 (by kernel_rfl) rfl .i64 .i64 6 (by omega) (by omega) W
 have e:madeCells #[(.slice none 0 0:Value)] 6=#[.slice none 0 0,.slice none 0 0,.slice none 0 0,.slice none 0 0,.slice none 0 0,.slice none 0 0]:=by kernel_rfl
 rw [e] at h
 exact h
theorem Zqf {B g:Nat} {w w':World} {v:Value} {l:List UInt8} (h:OwnB B w v l) (hB:g<B) (hk:Kep (fun b=>b≠g) w w'):BRow w' v l :=
 OwnB.brow (GB.OwnB.kepOwn h hk fun k hkk e=>by have:=(World.ownsRow.lt h k hkk).1;omega)
theorem ZvA (v:Value) (l:List Doc) (w:World) (hv:RAny docC w v l) (hS:isS l=true) (hsm:Zbs l) (hfit:FitS l) (h0:l≠[]):Calls Tryz.prog 39 #[v] w (Zbp (Zvz l) w):=by
 have HFI:=Lib.hid (Zjx hS hfit h0)
 have hz:=Zv7 hS hsm
 have htx:=hz.texts
 have HC1:=Lib.hid (Zv8 v l w hv htx)
 have HC2:=Lib.hid (fun W (hW:Below w.heap.size w W)=>ZrS v l W (hv.below hW) hS hsm)
 have HC5:=Lib.hid (fun W (hW:Below w.heap.size w W)=>(show Calls _ _ _ W (ST.Zap (SM.encS l) 0 W) by have h:=ST.Zez v l W (hv.below hW) hfit;rw [hS,if_pos rfl,if_pos rfl] at h;exact h))
 have HC6:=Lib.hid (fun W (hW:Below w.heap.size w W)=>ZxK v l W (hv.below hW) (by have:=hz.docs.1;omega))
 have HC8:=Lib.hid (fun W (hW:Below w.heap.size w W)=>Zjy v l W (hv.below hW) h0)
 obtain ⟨p,cap,rfl,hlc,hcm,_⟩:=hv.shape
 unfold maxLen at hcm
 have HZ:=Lib.hid hz
 obtain ⟨SW,hSW⟩:∃ SW,sumW l=SW:=⟨_,rfl⟩
 rw [hSW] at HC1 htx
 have q1:decide ((SW:Int)>16777216)=false:=by rw [decide_eq_false_iff_not];omega
 have q2:decide (16777216<SW)=false:=by rw [decide_eq_false_iff_not];omega
 clear hv hz hS hsm hfit h0 hSW
 go_enter Tryz.func39,Tryz.ntmps39
 go_wp2_with fail
 refine HC1.out.mono ?_
 rintro e w1 ⟨rfl,hb1⟩
 have HB1:=Lib.hid hb1
 clear hb1 HC1
 go_wp2_with fail
 refine (HC2.out _ HB1.out).mono ?_
 rintro e w2 ⟨mb,X,F,rfl,hT,hb2⟩
 have HB2:=Lib.hid (HB1.out.trans (hb2.mono HB1.out.size))
 have HT2:=Lib.hid hT
 have hmap:=hT.map
 obtain ⟨D,hD,hDs,hDF⟩:=hmap
 have hrl:=HZ.out.rows
 have hK:=callsIn_wide.1 (Tryz.maps_Keys_77 (some mb) w2)
 have hbk:Below w2.heap.size w2 (w2.alloc (.cells #[.map (some mb)] 136)):=(Below.refl _ _).alloc (Nat.le_refl _) _
 have hD2:=SM.Zqw hD (ZmT (fun _=>True) hbk) trivial
 have hSt:=callsIn_wide.1 (Tryz.slices_Sorted_keys_76_77 mb (Zuv l).length D SM.R0 w2 hD (by rw [hDs];unfold maxLen;omega) (by rw [hDs];omega))
 have HN:=Lib.hid (fun (ss:List (List UInt8)) (hp:ss.Perm (strKeys D))=>Zwc hD hT.rise (fun n=>by rw [(hDF n).1,hT.some_iff n];exact Zri hT.ne n) hp)
 have HK:=Lib.hid hK
 have HS:=Lib.hid hSt
 have HBK:=Lib.hid hbk
 clear hT hb2 hD hDs hDF hK hbk hD2 hSt HC2
 go_wp2_with fail
 refine HK.out.mono ?_
 rintro e w3 ⟨rfl,hw3⟩
 subst hw3
 go_wp2_with fail
 refine HS.out.mono ?_
 rintro e w4 ⟨v4,ss,rfl,hp,hrow,_,hb4⟩
 rw [HN.out ss hp] at hrow
 have hb34:=HBK.out.trans (hb4.mono (by simp))
 have htr:TRow w4 v4 ((Zuv l).map (·.1)):=Row.of_own hrow
 obtain ⟨pt,ct,hv4,_⟩:=TIn.shape htr
 rw [List.length_map] at hv4
 subst hv4
 have HTR:=Lib.hid htr
 have HB4:=Lib.hid (HB2.out.trans (hb34.mono HB2.out.size))
 have HC3:=Lib.hid (ZuF _ _ mb X F (Zuv l) w4 htr (HT2.out.below hb34) HZ.out.row hrl HZ.out.posts)
 clear hp hrow hb4 hb34 htr HK HS HN HBK HT2 HB1
 go_wp2_with fail
 refine HC3.out.mono ?_
 rintro e w5 ⟨u5,x5,rfl,hu5,hx5,hb5⟩
 obtain ⟨p5,c5,rfl,_⟩:=(OwnB.brow hu5).shape
 have HR5:=Lib.hid (OwnB.brow hu5)
 have HB5:=Lib.hid (HB4.out.trans (hb5.mono HB4.out.size))
 have HT5:=Lib.hid (TRow.below HTR.out hb5)
 obtain ⟨px,cx,rfl,_⟩:=hx5.shape
 have hC4:=DT.Zg1 _ _ w5 hx5
 rw [HZ.out.are,if_pos rfl,if_pos rfl] at hC4
 have HC4:=Lib.hid hC4
 clear hu5 hx5 hb5 HC3 HTR hC4
 go_wp2_with fail
 refine HC4.out.mono ?_
 rintro e w6 ⟨u6,rfl,hu6,hb6⟩
 obtain ⟨p6,c6,rfl,_⟩:=(OwnB.brow hu6).shape
 have HR6:=Lib.hid (OwnB.brow hu6)
 have HR65:=Lib.hid (BRow.below HR5.out hb6)
 have HT6:=Lib.hid (TRow.below HT5.out hb6)
 have HB6:=Lib.hid (HB5.out.trans (hb6.mono HB5.out.size))
 clear hu6 hb6 HC4 HR5 HT5
 go_wp2_with fail
 refine (HC5.out _ HB6.out).mono ?_
 rintro e w7 ⟨u7,rfl,hu7,hb7⟩
 obtain ⟨p7,c7,rfl,_⟩:=(OwnB.brow hu7).shape
 have HR7:=Lib.hid (OwnB.brow hu7)
 have HR76:=Lib.hid (BRow.below HR6.out hb7)
 have HR75:=Lib.hid (BRow.below HR65.out hb7)
 have HT7:=Lib.hid (TRow.below HT6.out hb7)
 have HB7:=Lib.hid (HB6.out.trans (hb7.mono HB6.out.size))
 clear hu7 hb7 HC5 HR6 HR65 HT6
 have hmk:=Zof
 obtain ⟨g,hg⟩:∃ g,w7.heap.size=g:=⟨_,rfl⟩
 obtain ⟨W8,hW8⟩:∃ W8,w7.alloc (.cells #[.slice none 0 0,.slice none 0 0,.slice none 0 0,.slice none 0 0,.slice none 0 0,.slice none 0 0] 23)=W8:=⟨_,rfl⟩
 have hb8:Below w7.heap.size w7 W8:=by rw [← hW8];exact (Below.refl _ _).alloc (Nat.le_refl _) _
 have g8:W8.heap[g]? = some (.cells #[.slice none 0 0,.slice none 0 0,.slice none 0 0,.slice none 0 0,.slice none 0 0,.slice none 0 0] 23 (0,0)):=by rw [← hW8,← hg];exact heap_alloc_new _ _
 have hwg:w.heap.size≤g:=by have:=HB7.out.size;omega
 have h8g:g<W8.heap.size:=(Array.getElem?_eq_some_iff.1 g8).1
 have a0:=Zud g8 0
 have a1:=frozen_of_row W8 g 0 _ _ g8
 have kg:=fun (W:World) (i:Nat) (u:Value)=>(ZmZ (S:=fun b=>b≠g) (w:=W) (g:=g) (i:=i) (fun h=>h rfl) u)
 have g9:(W8.setCell ⟨g,0,none⟩ (.slice p7 (SM.encS l).length c7)).heap[g]? = some (.cells #[(.slice p7 (SM.encS l).length c7),.slice none 0 0,.slice none 0 0,.slice none 0 0,.slice none 0 0,.slice none 0 0] 23 (0,0)):=heap_setCell_same W8 g 0 _ _ _ g8
 obtain ⟨W9,hW9⟩:∃ W9,W8.setCell ⟨g,0,none⟩ (.slice p7 (SM.encS l).length c7)=W9:=⟨_,rfl⟩
 have k9:=kg W8 0 (.slice p7 (SM.encS l).length c7)
 rw [hW9] at g9 k9
 rw [hg] at hb8
 have hbg:Below g w7 W9:=hb8.trans (k9.below (Nat.le_of_lt h8g) fun b hb=>by omega)
 have HBG9:=Lib.hid hbg
 have HB9:=Lib.hid (HB7.out.trans (hbg.mono hwg))
 have HG9:=Lib.hid g9
 have HW8:=Lib.hid hW8
 have HW9:=Lib.hid hW9
 have HGG:=Lib.hid hg
 have HKG:=Lib.hid kg
 have HWG:=Lib.hid hwg
 have h9s:W8.heap.size≤W9.heap.size:=k9.size
 have H9G:Hid (g<W9.heap.size):=Lib.hid (by omega)
 clear hW8 hW9 hg hb8 g8 g9 k9 hbg kg hwg h8g h9s
 go_wp2_with (first | (rw [HW8.out]) | (rw [HW9.out]) | (rw [HGG.out]))
 refine (HC6.out _ HB9.out).mono ?_
 rintro e w10 ⟨⟨u10,rfl,hu10⟩,hb10⟩
 obtain ⟨p10,c10,rfl,_⟩:=(OwnB.brow hu10).shape
 have g10:=(hb10.block g H9G.out).trans HG9.out
 have b0:=Zud g10 1
 have b1:=frozen_of_row w10 g 1 _ _ g10
 have kg:=HKG.out
 have d2:(w10.setCell ⟨g,1,none⟩ (.slice p10 (ZxI 0 l).length c10)).heap[g]? = some (.cells #[(.slice p7 (SM.encS l).length c7),(.slice p10 (ZxI 0 l).length c10),.slice none 0 0,.slice none 0 0,.slice none 0 0,.slice none 0 0] 23 (0,0)):=heap_setCell_same w10 g 1 _ _ _ g10
 have e0:=Zud d2 2
 have e1:=frozen_of_row _ g 2 _ _ d2
 have d3:((w10.setCell ⟨g,1,none⟩ (.slice p10 (ZxI 0 l).length c10)).setCell ⟨g,2,none⟩ (.slice p5 (Zrw (Zuv l)).length c5)).heap[g]? = some (.cells #[(.slice p7 (SM.encS l).length c7),(.slice p10 (ZxI 0 l).length c10),(.slice p5 (Zrw (Zuv l)).length c5),.slice none 0 0,.slice none 0 0,.slice none 0 0] 23 (0,0)):=heap_setCell_same _ g 2 _ _ _ d2
 have f0:=Zud d3 3
 have f1:=frozen_of_row _ g 3 _ _ d3
 have d4:(((w10.setCell ⟨g,1,none⟩ (.slice p10 (ZxI 0 l).length c10)).setCell ⟨g,2,none⟩ (.slice p5 (Zrw (Zuv l)).length c5)).setCell ⟨g,3,none⟩ (.slice p6 (encD (ZhC 0 (Zuv l))).length c6)).heap[g]? = some (.cells #[(.slice p7 (SM.encS l).length c7),(.slice p10 (ZxI 0 l).length c10),(.slice p5 (Zrw (Zuv l)).length c5),(.slice p6 (encD (ZhC 0 (Zuv l))).length c6),.slice none 0 0,.slice none 0 0] 23 (0,0)):=heap_setCell_same _ g 3 _ _ _ d3
 have k13:=((kg w10 1 (.slice p10 (ZxI 0 l).length c10)).trans (kg _ 2 (.slice p5 (Zrw (Zuv l)).length c5))).trans (kg _ 3 (.slice p6 (encD (ZhC 0 (Zuv l))).length c6))
 obtain ⟨W13,hW13⟩:∃ W13,((w10.setCell ⟨g,1,none⟩ (.slice p10 (ZxI 0 l).length c10)).setCell ⟨g,2,none⟩ (.slice p5 (Zrw (Zuv l)).length c5)).setCell ⟨g,3,none⟩ (.slice p6 (encD (ZhC 0 (Zuv l))).length c6)=W13:=⟨_,rfl⟩
 rw [hW13] at d4 k13
 have hsA:=hb10.size
 have h9g:=H9G.out
 have hbg10:Below g w7 w10:=HBG9.out.trans (hb10.mono (Nat.le_of_lt h9g))
 have hbg13:Below g w7 W13:=hbg10.trans (k13.below (by omega) fun b hb=>by omega)
 have HU10:=Lib.hid (show g<W9.heap.size∧OwnB W9.heap.size w10 (.slice p10 (ZxI 0 l).length c10) (ZxI 0 l) from ⟨h9g,hu10⟩)
 have HK10:=Lib.hid k13
 have HBG13:=Lib.hid hbg13
 have HB13:=Lib.hid (HB7.out.trans (hbg13.mono HWG.out))
 have HG13:=Lib.hid d4
 have HW13:=Lib.hid hW13
 have HT13:=Lib.hid (TRow.below HT7.out (hbg13.mono (by rw [← HGG.out];exact Nat.le_refl _)))
 have hrl:=HZ.out.rows
 have HC7:=Lib.hid (BL.Zfn _ _ W13 HT13.out (by rw [List.length_map];omega) (fun s hs=>by obtain ⟨r,hr,rfl⟩:=List.mem_map.1 hs;have:=(HZ.out.row r hr).2.2.1;omega))
 rw [List.length_map] at HC7
 have H13G:Hid (g<W13.heap.size):=Lib.hid (by have:=k13.size;omega)
 clear hu10 hb10 g10 d2 d3 d4 k13 hbg10 hbg13 hW13 kg HC6 HW8 HW9 HB9 HG9 HBG9 a0 a1
 go_wp2_with (rw [HW13.out])
 refine HC7.out.mono ?_
 rintro e w14 ⟨g14,bb,cap14,rfl,hf14,_,_,hb14⟩
 have hf14:BL.FAt w14 g14 bb cap14 (Ziw (Zuv l)):=hf14
 have HCB:=Lib.hid (BL.Zel g14 bb cap14 (Ziw (Zuv l)) w14 hf14)
 have HB14:=Lib.hid hb14
 clear hf14 hb14 HC7 b0 b1 e0 e1 f0 f1
 go_wp2_with fail
 refine HCB.out.mono ?_
 rintro e w15 ⟨u15,rfl,hu15,hb15⟩
 obtain ⟨p15,c15,rfl,_⟩:=(OwnB.brow hu15).shape
 have hb135:=HB14.out.trans (hb15.mono HB14.out.size)
 have g15:=(hb135.block g H13G.out).trans HG13.out
 have b0:=Zud g15 4
 have b1:=frozen_of_row w15 g 4 _ _ g15
 have kg:=HKG.out
 have d5:(w15.setCell ⟨g,4,none⟩ (.slice p15 (Ziw (Zuv l)).length c15)).heap[g]? = some (.cells #[(.slice p7 (SM.encS l).length c7),(.slice p10 (ZxI 0 l).length c10),(.slice p5 (Zrw (Zuv l)).length c5),(.slice p6 (encD (ZhC 0 (Zuv l))).length c6),(.slice p15 (Ziw (Zuv l)).length c15),.slice none 0 0] 23 (0,0)):=heap_setCell_same w15 g 4 _ _ _ g15
 have k16:=kg w15 4 (.slice p15 (Ziw (Zuv l)).length c15)
 obtain ⟨W16,hW16⟩:∃ W16,w15.setCell ⟨g,4,none⟩ (.slice p15 (Ziw (Zuv l)).length c15)=W16:=⟨_,rfl⟩
 rw [hW16] at d5 k16
 have h13g:=H13G.out
 have hs14:=HB14.out.size
 have hs15:=hb15.size
 have hbg16:Below g w7 W16:=(HBG13.out.trans (hb135.mono (Nat.le_of_lt h13g))).trans (k16.below (by omega) fun b hb=>by omega)
 have HK16:=Lib.hid ((HK10.out.trans (ZmT _ hb135)).trans k16)
 have HK15:=Lib.hid k16
 have HU15:=Lib.hid (show g<w14.heap.size∧OwnB w14.heap.size w15 (.slice p15 (Ziw (Zuv l)).length c15) (Ziw (Zuv l)) from ⟨by omega,hu15⟩)
 have HBG16:=Lib.hid hbg16
 have HB16:=Lib.hid (HB7.out.trans (hbg16.mono HWG.out))
 have HG16:=Lib.hid d5
 have HW16:=Lib.hid hW16
 have H16G:Hid (g<W16.heap.size):=Lib.hid (by have:=k16.size;omega)
 clear hu15 hb15 hb135 g15 d5 k16 hbg16 hW16 kg HCB HB14 HB13 HG13 HW13 HK10 HBG13
 go_wp2_with (rw [HW16.out])
 refine (HC8.out _ HB16.out).mono ?_
 rintro e w17 ⟨rfl,hb17⟩
 have HF:=Lib.hid (Zii (Zjt l) w17 HFI.out)
 have HB17:=Lib.hid hb17
 clear hb17 HC8 b0 b1
 go_wp2_with fail
 refine HF.out.mono ?_
 rintro e w18 ⟨u18,rfl,hu18,hb18⟩
 obtain ⟨p18,c18,rfl,_⟩:=(OwnB.brow hu18).shape
 have hb168:=HB17.out.trans (hb18.mono HB17.out.size)
 have g18:=(hb168.block g H16G.out).trans HG16.out
 have b0:=Zud g18 5
 have b1:=frozen_of_row w18 g 5 _ _ g18
 have kg:=HKG.out
 have d6:(w18.setCell ⟨g,5,none⟩ (.slice p18 (Zjr (Zjt l)).length c18)).heap[g]? = some (.cells #[(.slice p7 (SM.encS l).length c7),(.slice p10 (ZxI 0 l).length c10),(.slice p5 (Zrw (Zuv l)).length c5),(.slice p6 (encD (ZhC 0 (Zuv l))).length c6),(.slice p15 (Ziw (Zuv l)).length c15),(.slice p18 (Zjr (Zjt l)).length c18)] 23 (0,0)):=heap_setCell_same w18 g 5 _ _ _ g18
 have k19:=kg w18 5 (.slice p18 (Zjr (Zjt l)).length c18)
 obtain ⟨W19,hW19⟩:∃ W19,w18.setCell ⟨g,5,none⟩ (.slice p18 (Zjr (Zjt l)).length c18)=W19:=⟨_,rfl⟩
 rw [hW19] at d6 k19
 have h16g:=H16G.out
 have hs17:=HB17.out.size
 have hs18:=hb18.size
 have hbg19:Below g w7 W19:=(HBG16.out.trans (hb168.mono (Nat.le_of_lt h16g))).trans (k19.below (by omega) fun b hb=>by omega)
 have hk68:=(ZmT (fun b=>b≠g) hb168).trans k19
 have hbw7:Below w7.heap.size w7 W19:=hbg19.mono (by rw [← HGG.out];exact Nat.le_refl _)
 have HQ:Hid (Zbp (Zvz l) w (.returned (.tuple #[.slice (some ⟨g,0,none⟩) 6 6,.int .i64 0])) W19):=Lib.hid
  ⟨_,rfl,ZrN d6 (BRow.below HR7.out hbw7) (Zqf HU10.out.2 HU10.out.1 (HK16.out.trans hk68)) (BRow.below HR75.out hbw7) (BRow.below HR76.out hbw7) (Zqf HU15.out.2 HU15.out.1 (HK15.out.trans hk68)) (Zqf hu18 (by omega) k19),HB7.out.trans (hbg19.mono HWG.out)⟩
 have HW19:=Lib.hid hW19
 clear hu18 hb18 hb168 g18 d6 k19 hbg19 hW19 kg HF HK16 HK15 HBG16 hk68 hbw7 HU10 HU15 HG16 HW16
 go_wp2_with (rw [HW19.out])
 go_ret2
 exact HQ.out
end Go.Proofs.YtdijhifdjbnkfaaGreat.SG
