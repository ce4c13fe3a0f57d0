import Derived.Shelf.SlIter.Nil
import Derived.Test.YtdijhifdjbnkfaaGreatZT30
import Derived.Test.YtdijhifdjbnkfaaGreatZT32
import Derived.Test.YtdijhifdjbnkfaaGreatZT33
import Derived.Test.YtdijhifdjbnkfaaGreatZT38
import Derived.Test.YtdijhifdjbnkfaaGreatZT19
import Derived.Deep.OwnRows
set_option maxRecDepth 100000
set_option maxHeartbeats 0
set_option linter.unusedVariables false
set_option linter.unusedSimpArgs false
namespace Go.Proofs.YtdijhifdjbnkfaaGreat
open Lib (hid)
open Tryz
namespace SG
open RowKit MM Go.Maps SM
open EM (Zj Za9 Zac Zs)
theorem ZtE:∀(a b:Xu),Zj a b=true->a<b
 | [],[],h=>by simp [Zj] at h
 | [],b::t,_=>List.nil_lt_cons b t
 | _::_,[],h=>by simp [Zj] at h
 | a::s,b::t,h=>by
   unfold Zj at h;rw [List.cons_lt_cons_iff]
   by_cases e:a=b
   ·rw [Xe e] at h;exact .inr ⟨e,ZtE s t h⟩
   ·rw [Xa e] at h;exact .inl (UInt8.lt_iff_toNat_lt.2 (of_decide_eq_true h))
theorem Zre {α:Type} {T:List (EM.Tr α)} {D:DataW Value} {w:World} {E m:Nat} {R:Value->Option (DataW Value×List MemPlace)} (f:w.ownsMap prog 9 R E m D) (A:Zac T) (z:∀n,Maps.has D (.string n)=true↔n∈T.map (·.1)) {s:List Xu}
  (hs:s.Perm (strKeys D)):s.mergeSort (fun x y=>decide (x<=y))=T.map (·.1):=by
 obtain ⟨es,rfl,I,_⟩:=f.entries ZfY
 have G:∀p∈es,∃x,p.1=.string x:=by
  obtain ⟨o,k,l⟩:=f.keysOf;have k:es=o:=by simpa using k
  subst k;intro p q;obtain ⟨v,C⟩:=l p q;obtain ⟨x,_,F,_⟩:=Maps.keyOf_str underlying9 C;exact ⟨x,F⟩
 have d:(T.map (·.1)).Pairwise (fun a b=>Zj a b=true):=by
  rw [List.pairwise_map];exact A
 have i:(T.map (·.1)).Nodup:=d.imp fun {a b} h e=>by
  rw [e,Za9] at h;cases h
 have g:(T.map (·.1)).Perm (strKeys (.map es)):=perm_strKeys I G i fun x=>(z x).symm;have r:=mergeSort_of_perm (hs.trans g.symm)
 have j:(T.map (·.1)).mergeSort leB=T.map (·.1):=by
  have H:∀a b c:Xu,leB a b=true->leB b c=true->leB a c=true:=fun a b c r j=>by simp only [leB,Xg] at *;exact List.le_trans r j
  have B:∀a b:Xu,(leB a b||leB b a)=true:=fun a b=>by simp only [leB,Bool.or_eq_true,Xg];exact List.le_total a b
  refine List.Perm.eq_of_pairwise (le:=fun a b=>leB a b=true) (fun a b _ _ t u => ?_) (List.pairwise_mergeSort H B _) (d.imp fun {a b} h => ?_) (List.mergeSort_perm _ leB)
  ·simp only [leB,Xg] at t u;exact List.le_antisymm t u
  ·simp only [leB,Xg];exact List.le_of_lt (ZtE a b h)
 exact r.trans j
end SG
end Go.Proofs.YtdijhifdjbnkfaaGreat
namespace Go.Proofs
open Go.Shelf
def Tryz.keys77_ren:Go.Shelf.Ren:=⟨fun|7=>77|10=>128|n=>n,fun|23=>136|26=>9|3=>47|28=>141|0=>0|27=>140|33=>50|4=>4|n=>n,fun|n=>n⟩
theorem Tryz.keys77:Go.Proofs.SlLaysZ.n7 Tryz.prog Tryz.keys77_ren:={
 mixed:=by kernel_rfl
 f7:=⟨Tryz.f77.name,by decide,Tryz.func77.trans (congrArg some (by kernel_rfl))⟩
 f10:=⟨Tryz.f128.name,by decide,Tryz.func128.trans (congrArg some (by kernel_rfl))⟩
 t0:=Tryz.underlying0
 a0:=Tryz.isAgg0
 z0:=Tryz.sizeOf0
 v0:=Tryz.zeroValue0
 t4:=Tryz.underlying4
 a4:=Tryz.isAgg4
 z4:=Tryz.sizeOf4
 v4:=Tryz.zeroValue4
 t23:=Tryz.underlying136
 a23:=Tryz.isAgg136
 z23:=Tryz.sizeOf136
 v23:=Tryz.zeroValue136
 t26:=Tryz.underlying9
 a26:=Tryz.isAgg9
 z26:=Tryz.sizeOf9
 v26:=Tryz.zeroValue9
 t27:=Tryz.underlying140
 a27:=Tryz.isAgg140
 z27:=Tryz.sizeOf140
 v27:=Tryz.zeroValue140
 t28:=Tryz.underlying141
 a28:=Tryz.isAgg141
 z28:=Tryz.sizeOf141
 v28:=Tryz.zeroValue141
 t33:=Tryz.underlying50
 a33:=Tryz.isAgg50
 z33:=Tryz.sizeOf50
 v33:=Tryz.zeroValue50 }
def Tryz.sorted76_ren:Go.Shelf.Ren:=⟨fun|6=>76|8=>126|9=>127|11=>186|13=>188|12=>187|23=>237|24=>238|14=>228|15=>229|16=>230|17=>231|18=>232|19=>233|20=>234|21=>235|22=>236|25=>258|26=>259|27=>260|28=>261|29=>262|30=>227|31=>275|n=>n,fun|26=>9|28=>141|24=>40|0=>0|3=>3|37=>185|48=>183|50=>180|4=>4|40=>297|39=>296|45=>289|5=>5|9=>9|51=>317|55=>321|57=>331|58=>261|33=>50|n=>n,fun|n=>n⟩
theorem Tryz.sorted76:Go.Proofs.SlLaysZ.n6 Tryz.prog Tryz.sorted76_ren:={
 mixed:=by kernel_rfl
 f6:=⟨Tryz.f76.name,by decide,Tryz.func76.trans (congrArg some (by kernel_rfl))⟩
 f8:=⟨Tryz.f126.name,by decide,Tryz.func126.trans (congrArg some (by kernel_rfl))⟩
 f11:=⟨Tryz.f186.name,by decide,Tryz.func186.trans (congrArg some (by kernel_rfl))⟩
 t0:=Tryz.underlying0
 a0:=Tryz.isAgg0
 z0:=Tryz.sizeOf0
 v0:=Tryz.zeroValue0
 t24:=Tryz.underlying40
 a24:=Tryz.isAgg40
 z24:=Tryz.sizeOf40
 v24:=Tryz.zeroValue40
 t26:=Tryz.underlying9
 a26:=Tryz.isAgg9
 z26:=Tryz.sizeOf9
 v26:=Tryz.zeroValue9
 t28:=Tryz.underlying141
 a28:=Tryz.isAgg141
 z28:=Tryz.sizeOf141
 v28:=Tryz.zeroValue141
 i26:=by kernel_rfl }
def Tryz.sort127_ren:Go.Shelf.Ren:=⟨fun|6=>127|8=>188|9=>187|19=>237|20=>238|21=>228|22=>229|23=>230|24=>231|25=>232|26=>233|27=>234|28=>235|29=>236|36=>258|31=>259|32=>260|37=>261|38=>262|39=>227|41=>275|n=>n,fun|27=>40|29=>9|3=>3|32=>185|26=>40|0=>0|44=>183|46=>180|4=>4|36=>297|35=>296|41=>289|5=>5|9=>9|53=>317|57=>321|63=>331|64=>261|n=>n,fun|n=>n⟩
theorem Tryz.sort127:Go.Proofs.SlLaysM.n6 Tryz.prog Tryz.sort127_ren:={
 mixed:=by kernel_rfl
 f6:=⟨Tryz.f127.name,by decide,Tryz.func127.trans (congrArg some (by kernel_rfl))⟩
 f8:=Tryz.func188.trans (congrArg some (by kernel_rfl))
 f9:=⟨Tryz.f187.name,by decide,Tryz.func187.trans (congrArg some (by kernel_rfl))⟩
 f19:=Tryz.func237.trans (congrArg some (by kernel_rfl))
 f20:=Tryz.func238.trans (congrArg some (by kernel_rfl))
 f21:=⟨Tryz.f228.name,by decide,Tryz.func228.trans (congrArg some (by kernel_rfl))⟩
 f22:=⟨Tryz.f229.name,by decide,Tryz.func229.trans (congrArg some (by kernel_rfl))⟩
 f23:=⟨Tryz.f230.name,by decide,Tryz.func230.trans (congrArg some (by kernel_rfl))⟩
 f24:=⟨Tryz.f231.name,by decide,Tryz.func231.trans (congrArg some (by kernel_rfl))⟩
 f25:=⟨Tryz.f232.name,by decide,Tryz.func232.trans (congrArg some (by kernel_rfl))⟩
 f26:=⟨Tryz.f233.name,by decide,Tryz.func233.trans (congrArg some (by kernel_rfl))⟩
 f27:=⟨Tryz.f234.name,by decide,Tryz.func234.trans (congrArg some (by kernel_rfl))⟩
 f28:=⟨Tryz.f235.name,by decide,Tryz.func235.trans (congrArg some (by kernel_rfl))⟩
 f29:=⟨Tryz.f236.name,by decide,Tryz.func236.trans (congrArg some (by kernel_rfl))⟩
 f31:=Tryz.func259.trans (congrArg some (by kernel_rfl))
 f32:=Tryz.func260.trans (congrArg some (by kernel_rfl))
 f36:=⟨Tryz.f258.name,by decide,Tryz.func258.trans (congrArg some (by kernel_rfl))⟩
 f37:=⟨Tryz.f261.name,by decide,Tryz.func261.trans (congrArg some (by kernel_rfl))⟩
 f38:=⟨Tryz.f262.name,by decide,Tryz.func262.trans (congrArg some (by kernel_rfl))⟩
 f39:=⟨Tryz.f227.name,by decide,Tryz.func227.trans (congrArg some (by kernel_rfl))⟩
 f41:=⟨Tryz.f275.name,by decide,Tryz.func275.trans (congrArg some (by kernel_rfl))⟩
 t0:=Tryz.underlying0
 a0:=Tryz.isAgg0
 z0:=Tryz.sizeOf0
 v0:=Tryz.zeroValue0
 t3:=Tryz.underlying3
 a3:=Tryz.isAgg3
 z3:=Tryz.sizeOf3
 v3:=Tryz.zeroValue3
 t4:=Tryz.underlying4
 a4:=Tryz.isAgg4
 z4:=Tryz.sizeOf4
 v4:=Tryz.zeroValue4
 t5:=Tryz.underlying5
 a5:=Tryz.isAgg5
 z5:=Tryz.sizeOf5
 v5:=Tryz.zeroValue5
 t9:=Tryz.underlying9
 a9:=Tryz.isAgg9
 z9:=Tryz.sizeOf9
 v9:=Tryz.zeroValue9
 t26:=Tryz.underlying40
 a26:=Tryz.isAgg40
 z26:=Tryz.sizeOf40
 v26:=Tryz.zeroValue40
 t27:=Tryz.underlying40
 a27:=Tryz.isAgg40
 z27:=Tryz.sizeOf40
 v27:=Tryz.zeroValue40
 t29:=Tryz.underlying9
 a29:=Tryz.isAgg9
 z29:=Tryz.sizeOf9
 v29:=Tryz.zeroValue9
 t32:=Tryz.underlying185
 a32:=Tryz.isAgg185
 z32:=Tryz.sizeOf185
 v32:=Tryz.zeroValue185
 t35:=Tryz.underlying296
 a35:=Tryz.isAgg296
 z35:=Tryz.sizeOf296
 v35:=Tryz.zeroValue296
 t36:=Tryz.underlying297
 a36:=Tryz.isAgg297
 z36:=Tryz.sizeOf297
 v36:=Tryz.zeroValue297
 t41:=Tryz.underlying289
 a41:=Tryz.isAgg289
 z41:=Tryz.sizeOf289
 v41:=Tryz.zeroValue289
 t44:=Tryz.underlying183
 a44:=Tryz.isAgg183
 z44:=Tryz.sizeOf183
 v44:=Tryz.zeroValue183
 t46:=Tryz.underlying180
 a46:=Tryz.isAgg180
 z46:=Tryz.sizeOf180
 v46:=Tryz.zeroValue180
 t53:=Tryz.underlying317
 a53:=Tryz.isAgg317
 z53:=Tryz.sizeOf317
 v53:=Tryz.zeroValue317
 t57:=Tryz.underlying321
 a57:=Tryz.isAgg321
 z57:=Tryz.sizeOf321
 v57:=Tryz.zeroValue321
 t63:=Tryz.underlying331
 a63:=Tryz.isAgg331
 z63:=Tryz.sizeOf331
 v63:=Tryz.zeroValue331
 t64:=Tryz.underlying261
 a64:=Tryz.isAgg261
 z64:=Tryz.sizeOf261
 v64:=Tryz.zeroValue261 }
open Go.RowKit Go.Maps Go.Sort in
theorem Tryz.sorts76 (m:Nat):AnyZ.SortsIn Tryz.prog Tryz.sorted76_ren Fence.wide m :=
 ⟨fun c off a e W f b d=>callsIn_wide.2 (AnyM.slices_Sort_string Tryz.sort127 c off a e W f b d),
  fun p a W=>callsIn_wide.2 (AnyM.slices_Sort_string_none Tryz.sort127 p a W)⟩
open Go.RowKit Go.Maps Go.Sort in
theorem Tryz.maps_Keys_77 (a:Option Nat) (W:World):CallsIn Fence.wide 5 Tryz.prog 77 #[.map a] W fun e w'=>e=.returned (.func (.func 128) #[] #[.pointer (some ⟨W.heap.size,0,none⟩)])/\w'=W.alloc (.cells #[.map a] 136) :=
 AnyZ.keys_in Tryz.keys77 Fence.wide 5 trivial rfl a W
open Go.RowKit Go.Maps Go.Sort in
theorem Tryz.slices_Sorted_keys_76_77 {H:Type} (b j:Nat) (c:DataW H) (R:Value->Option (DataW H×List MemPlace)) (w:World) (a:w.ownsMap Tryz.prog 9 R b j c) (h:Maps.size c<=maxLen) (ZdA:Maps.size c*16<=140737488355328) :
  CallsIn Fence.wide 5 Tryz.prog 76 #[.func (.func 128) #[] #[.pointer (some ⟨w.heap.size,0,none⟩)]] (w.alloc (.cells #[.map (some b)] 136)) fun e w'=>∃(v:Value) (f:List (List UInt8)),e=.returned v/\f.Perm (strKeys c) /\
   w'.ownsRow (w.alloc (.cells #[.map (some b)] 136)).heap.size 9 1 v f.length ((f.mergeSort (fun x y=>decide (x<=y))).map encStr)/\(v=.slice none 0 0↔f=[])/\Below (w.alloc (.cells #[.map (some b)] 136)).heap.size (w.alloc (.cells #[.map (some b)] 136)) w':=by
 have i:=a.lt
 have g:SeqGives Fence.wide 2 Tryz.prog 128 #[.pointer (some ⟨w.heap.size,0,none⟩)] encStr (fun f=>f.Perm (strKeys c)) (Maps.size c) (w.alloc (.cells #[.map (some b)] 136)) :=
  AnyZ.keys_gives (ρ:=Tryz.keys77_ren) { Tryz.keys77 with } Fence.wide _ trivial rfl (by omega) w.heap.size b j c _ (by simp) (by simp) (by
   obtain ⟨es,d,k,l,hs,m⟩:=a;exact ⟨es,d,(Below.heap_alloc _ _ b i).trans k,l,hs,m⟩)
 exact AnyZ.sorted_in Tryz.sorted76 Fence.wide 5 trivial trivial trivial trivial rfl (by omega) (Tryz.sorts76 _) (enters_of Tryz.func127 (by kernel_rfl) rfl) 128 #[.pointer (some ⟨w.heap.size,0,none⟩)] trivial (enters_of Tryz.func128 (by kernel_rfl) rfl) _ _ h ZdA _ g
end Go.Proofs
namespace Go.Proofs.YtdijhifdjbnkfaaGreat
open Lib (hid)
open Tryz
namespace SG
open RowKit MM Go.Maps
open EV (ZA Z8)
open SM (Zo isS ZaH)
open GM (ZbA sized ZcE Zax Zt Zn Z9 Z0 Zak Zdp Zp)
open CR (Zbp)
open DM (ZbJ)
open EM (Zs)
variable {w:World} {g:Nat}
def Znv (L:List Xu) (w:World) (e:Ending) (w':World):Prop:=∃v,e=.returned (.tuple #[v,.int .i64 0])/\Zbp w' v L/\Below w.heap.size w w'
theorem Zvn {α:Type} {T:List (EM.Tr α)} (h:∀t∈T,t.2≠[]) (s:Xu):Zs T s≠[]↔s∈T.map (·.1):=by
 constructor
 ·exact EV.ZdG
 ·intro a e
  induction T with
  | nil=>simp at a
  | cons t T ih =>
    rw [Zs] at e
    by_cases hs:t.1=s
    ·rw [Xe hs] at e;exact h t (by simp) e
    ·rw [Xa hs] at e;rw [XF,XS] at a;exact ih (fun u b=>h u (Xa5 _ b)) (a.resolve_left fun h=>hs h.symm) e
theorem Zyc:∀(l:List Zo) (a:Int),(-9223372036854775808<=a/\a<=9223372036854775807)->ZaH l -> -9223372036854775808<=Zjc a l/\Zjc a l<=9223372036854775807
 | [],a,h,_=>h
 | d::l,a,h,hf=>by
   have b:=hf d (by simp);unfold EM.Zid at b;exact Zyc l (min a d.2.1) ⟨by omega,by omega⟩ fun x c=>hf x (Xa5 _ c)
theorem Ztx:∀(l:List Zo) (a:Int),(-9223372036854775808<=a/\a<=9223372036854775807)->ZaH l -> -9223372036854775808<=Zfd a l/\Zfd a l<=9223372036854775807
 | [],a,h,_=>h
 | d::l,a,h,hf=>by
   have b:=hf d (by simp);unfold EM.Zid at b;exact Ztx l (max a d.2.1) ⟨by omega,by omega⟩ fun x c=>hf x (Xa5 _ c)
theorem Ztr {l:List Zo} (a:isS l=true) (c:ZaH l) (h:l≠[]):∀z∈[(Zp l).1,(Zp l).2.1,(Zp l).2.2.1,(Zp l).2.2.2.1,((Zp l).2.2.2.2:Int)], -9223372036854775808<=z/\z<=9223372036854775807:=by
 have hn:=Xac.2 h;obtain ⟨n,b⟩:∃n,l.length=n+1:=⟨l.length - 1,by omega⟩;have hl:=(SM.Zbx.1 a).1;have e0:=SM.Zfy a (k:=0) (by omega);have en:=SM.Zfy a (k:=n) (by omega);have p0:=SM.ZcA a (k:=0) (by omega);have pn:=SM.ZcA a (k:=n) (by omega);have e:=c l[0] (XH _);have i:=Zyc l l[0].2.1 e c;have f:=Ztx l l[0].2.1 e c;rw [Zqi b];intro z d;simp only [XS,Xbi,or_false] at d;rcases d with rfl|rfl|rfl|rfl|rfl
 ·exact i
 ·exact f
 ·exact ⟨by omega,by omega⟩
 ·exact ⟨by omega,by omega⟩
 ·exact ⟨by omega,by omega⟩
theorem ZmO {c0 c1 c2 c3 a b:Value} {l c f d j k:Xu} (h:w.heap[g]? = some (.cells #[c0,c1,c2,c3,a,b] 23 (0,0))) (r:Zq w c0 l) (q:Zq w c1 c) (p:Zq w c2 f) (o:Zq w c3 d) (n:Zq w a j) (m:Zq w b k) :
  Zbp w (.slice (some ⟨g,0,none⟩) 6 6) [l,c,f,d,j,k]:=by
 refine ⟨[c0,c1,c2,c3,a,b],⟨_,_,rfl,Xc _,by unfold maxLen;simp,(fun e=>by cases e),.inr ⟨g,0,rfl,(Xo.1 h).1,fun i u hi => ?_⟩⟩,rfl,fun i hi => ?_⟩
 ·rw [XL,Zh h i];simpa using hi
 ·match i,hi with
  | 0,_=>exact ⟨_,rfl,r⟩
  | 1,_=>exact ⟨_,rfl,q⟩
  | 2,_=>exact ⟨_,rfl,p⟩
  | 3,_=>exact ⟨_,rfl,o⟩
  | 4,_=>exact ⟨_,rfl,n⟩
  | 5,_=>exact ⟨_,rfl,m⟩
theorem Zyf (W:World):(Instr.makeSlice 92 (.int .i64 6) (.int .i64 6)).run prog W=.ok (.slice (some ⟨W.heap.size,0,none⟩) 6 6) (W.alloc (.cells #[.slice none 0 0,.slice none 0 0,.slice none 0 0,.slice none 0 0,.slice none 0 0,.slice none 0 0] 23)):=by
 have h:=run_make_row' (P:=prog) 92 23 (.slice none 0 0) 24 underlying92 (by kernel_rfl) rfl .i64 .i64 6 (by omega) (by omega) W;have e:madeCells #[(.slice none 0 0:Value)] 6=#[.slice none 0 0,.slice none 0 0,.slice none 0 0,.slice none 0 0,.slice none 0 0,.slice none 0 0]:=by kernel_rfl
 rw [e] at h;exact h
theorem ZmC {B:Nat} {w':World} {v:Value} {l:Xu} (h:Zd B w v l) (hB:g<B) (c:Kep (fun b=>b≠g) w w'):Zq w' v l :=
 Zd.brow (GB.Zd.kepOwn h c fun k a e=>by have:=(World.ownsRow.lt h k a).1;omega)
theorem ZvL (v:Value) (l:List Zo) (w:World) (hv:ZN ZA w v l) (hS:isS l=true) (aJ:ZbA l) (M:ZaH l) (h0:l≠[]):Calls prog 39 #[v] w (Znv (Zax l) w):=by
 have bQ:=hid (Ztr hS M h0);have hz:=sized hS aJ;have be:=hz.texts;have aT:=hid (ZvM v l w hv be);have a9:=hid (fun W (hW:Below w.heap.size w W)=>ZyI v l W (hv.below hW) hS aJ);have a8:=hid (fun W (hW:Below w.heap.size w W)=>(show Calls _ _ _ W (ST.Zs7 (SM.encS l) 0 W) by have h:=ST.ZwQ v l W (hv.below hW) M;rw [hS,Xe rfl,Xe rfl] at h;exact h));have bD:=hid (fun W (hW:Below w.heap.size w W)=>ZvX v l W (hv.below hW) (by have:=hz.docs.1;omega));have bz:=hid (fun W (hW:Below w.heap.size w W)=>Zmc v l W (hv.below hW) h0);obtain ⟨p,b4,rfl,b5,bW,_⟩:=hv.shape;unfold maxLen at bW;have HZ:=hid hz;obtain ⟨SW,bL⟩:=Xn (ZcE l);rw [bL] at aT be;have q1:decide ((SW:Int)>16777216)=false:=Xf;have q2:decide (16777216<SW)=false:=Xf;clear hv hz hS aJ M h0 bL;go_enter func39,ntmps39;go_wp2_with fail;refine aT.out.mono ?_;rintro e w1 ⟨rfl,bm⟩;have am:=hid bm;clear bm aT;go_wp2_with fail;refine (a9.out _ am.out).mono ?_;rintro e w2 ⟨mb,X,F,rfl,hT,bn⟩;have bG:=hid (am.out.trans (bn.mono am.out.size));have bf:=hid hT;have bM:=hT.map;obtain ⟨D,hD,aU,bB⟩:=bM;have bo:=HZ.out.rows;have hK:=callsIn_wide.1 (Tryz.maps_Keys_77 (some mb) w2);have aW:Below w2.heap.size w2 (w2.alloc (.cells #[.map (some mb)] 136)):=(Below.refl _ _).alloc (Xc _) _;have bR:=SM.ZqR hD (Za (fun _=>True) aW) trivial;have bu:=callsIn_wide.1 (Tryz.slices_Sorted_keys_76_77 mb (Zt l).length D SM.R0 w2 hD (by rw [aU];unfold maxLen;omega) (by rw [aU];omega));have HN:=hid (fun (ss:List Xu) (hp:ss.Perm (strKeys D))=>Zre hD hT.rise (fun n=>by rw [(bB n).1,hT.some_iff n];exact Zvn hT.ne n) hp);have HK:=hid hK;have HS:=hid bu;have bC:=hid aW;clear hT bn hD aU bB hK aW bR bu a9;go_wp2_with fail;refine HK.out.mono ?_;rintro e w3 ⟨rfl,bS⟩;subst bS;go_wp2_with fail;refine HS.out.mono ?_;rintro e w4 ⟨v4,ss,rfl,hp,Z,_,br⟩;rw [HN.out ss hp] at Z;have Y:=bC.out.trans (br.mono (by simp));have al:Ze4 w4 v4 ((Zt l).map (·.1)):=Row.of_own Z;obtain ⟨pt,ct,bF,_⟩:=TIn.shape al;rw [XE] at bF;subst bF;have bN:=hid al;have bd:=hid (bG.out.trans (Y.mono bG.out.size));have bP:=hid (Zy5 _ _ mb X F (Zt l) w4 al (bf.out.below Y) HZ.out.row bo HZ.out.posts);clear hp Z br Y al HK HS HN bC bf am;go_wp2_with fail;refine bP.out.mono ?_;rintro e w5 ⟨u5,x5,rfl,aV,aN,a5⟩;obtain ⟨p5,c5,rfl,_⟩:=(Zd.brow aV).shape;have bv:=hid (Zd.brow aV);have bs:=hid (bd.out.trans (a5.mono bd.out.size));have bj:=hid (Ze4.below bN.out a5);obtain ⟨px,cx,rfl,_⟩:=aN.shape;have aR:=DT.Zem _ _ w5 aN;rw [HZ.out.are,Xe rfl,Xe rfl] at aR;have bA:=hid aR;clear aV aN a5 bP bN aR;go_wp2_with fail;refine bA.out.mono ?_;rintro e w6 ⟨u6,rfl,aP,ak⟩;obtain ⟨p6,c6,rfl,_⟩:=(Zd.brow aP).shape;have bE:=hid (Zd.brow aP);have az:=hid (Zq.below bv.out ak);have bh:=hid (Ze4.below bj.out ak);have a3:=hid (bs.out.trans (ak.mono bs.out.size));clear aP ak bA bv bj;go_wp2_with fail;refine (a8.out _ a3.out).mono ?_;rintro e w7 ⟨u7,rfl,aY,I⟩;obtain ⟨p7,c7,rfl,_⟩:=(Zd.brow aY).shape;have bU:=hid (Zd.brow aY);have bg:=hid (Zq.below bE.out I);have ba:=hid (Zq.below az.out I);have bX:=hid (Ze4.below bh.out I);have ab:=hid (a3.out.trans (I.mono a3.out.size));clear aY I a8 bE az bh;have b7:=Zyf;obtain ⟨g,hg⟩:=Xn w7.heap.size;obtain ⟨W8,an⟩:=Xn (w7.alloc (.cells #[.slice none 0 0,.slice none 0 0,.slice none 0 0,.slice none 0 0,.slice none 0 0,.slice none 0 0] 23));have aZ:Below w7.heap.size w7 W8:=by rw [<- an];exact (Below.refl _ _).alloc (Xc _) _
 have g8:W8.heap[g]? = some (.cells #[.slice none 0 0,.slice none 0 0,.slice none 0 0,.slice none 0 0,.slice none 0 0,.slice none 0 0] 23 (0,0)):=by rw [<- an,<- hg];exact heap_alloc_new _ _
 have aQ:w.heap.size<=g:=by have:=ab.out.size;omega
 have bJ:g<W8.heap.size:=(Xo.1 g8).1;have a0:=Zh g8 0;have a1:=frozen_of_row W8 g 0 _ _ g8;have z:=fun (W:World) (i:Nat) (u:Value)=>(Zx (S:=fun b=>b≠g) (w:=W) (g:=g) (i:=i) (fun h=>h rfl) u);have g9:(W8.setCell ⟨g,0,none⟩ (.slice p7 (SM.encS l).length c7)).heap[g]? = some (.cells #[(.slice p7 (SM.encS l).length c7),.slice none 0 0,.slice none 0 0,.slice none 0 0,.slice none 0 0,.slice none 0 0] 23 (0,0)):=heap_setCell_same W8 g 0 _ _ _ g8;obtain ⟨W9,aL⟩:=Xn (W8.setCell ⟨g,0,none⟩ (.slice p7 (SM.encS l).length c7));have k9:=z W8 0 (.slice p7 (SM.encS l).length c7);rw [aL] at g9 k9;rw [hg] at aZ;have a4:Below g w7 W9:=aZ.trans (k9.below (Xam bJ) fun b hb=>by omega);have aI:=hid a4;have bi:=hid (ab.out.trans (a4.mono aQ));have bc:=hid g9;have bO:=hid an;have bq:=hid aL;have aK:=hid hg;have aX:=hid z;have a2:=hid aQ;have bT:W8.heap.size<=W9.heap.size:=k9.size;have bI:Hid (g<W9.heap.size):=hid (by omega);clear an aL hg aZ g8 g9 k9 a4 z aQ bJ bT;go_wp2_with (first|(rw [bO.out])|(rw [bq.out])|(rw [aK.out]))
 refine (bD.out _ bi.out).mono ?_;rintro e j ⟨⟨u10,rfl,ae⟩,q⟩;obtain ⟨a,c,rfl,_⟩:=(Zd.brow ae).shape;have ao:=(q.block g bI.out).trans bc.out;have b0:=Zh ao 1;have b1:=frozen_of_row j g 1 _ _ ao;have z:=aX.out;have d2:(j.setCell ⟨g,1,none⟩ (.slice a (Z0 0 l).length c)).heap[g]? = some (.cells #[(.slice p7 (SM.encS l).length c7),(.slice a (Z0 0 l).length c),.slice none 0 0,.slice none 0 0,.slice none 0 0,.slice none 0 0] 23 (0,0)):=heap_setCell_same j g 1 _ _ _ ao;have e0:=Zh d2 2;have e1:=frozen_of_row _ g 2 _ _ d2;have d3:((j.setCell ⟨g,1,none⟩ (.slice a (Z0 0 l).length c)).setCell ⟨g,2,none⟩ (.slice p5 (Zn (Zt l)).length c5)).heap[g]? = some (.cells #[(.slice p7 (SM.encS l).length c7),(.slice a (Z0 0 l).length c),(.slice p5 (Zn (Zt l)).length c5),.slice none 0 0,.slice none 0 0,.slice none 0 0] 23 (0,0)):=heap_setCell_same _ g 2 _ _ _ d2;have f0:=Zh d3 3;have f1:=frozen_of_row _ g 3 _ _ d3;have d4:(((j.setCell ⟨g,1,none⟩ (.slice a (Z0 0 l).length c)).setCell ⟨g,2,none⟩ (.slice p5 (Zn (Zt l)).length c5)).setCell ⟨g,3,none⟩ (.slice p6 (ZbJ (Z9 0 (Zt l))).length c6)).heap[g]? = some (.cells #[(.slice p7 (SM.encS l).length c7),(.slice a (Z0 0 l).length c),(.slice p5 (Zn (Zt l)).length c5),(.slice p6 (ZbJ (Z9 0 (Zt l))).length c6),.slice none 0 0,.slice none 0 0] 23 (0,0)):=heap_setCell_same _ g 3 _ _ _ d3;have T:=((z j 1 (.slice a (Z0 0 l).length c)).trans (z _ 2 (.slice p5 (Zn (Zt l)).length c5))).trans (z _ 3 (.slice p6 (ZbJ (Z9 0 (Zt l))).length c6));obtain ⟨aS,G⟩:=Xn (((j.setCell ⟨g,1,none⟩ (.slice a (Z0 0 l).length c)).setCell ⟨g,2,none⟩ (.slice p5 (Zn (Zt l)).length c5)).setCell ⟨g,3,none⟩ (.slice p6 (ZbJ (Z9 0 (Zt l))).length c6));rw [G] at d4 T;have b6:=q.size;have bx:=bI.out;have N:Below g w7 j:=aI.out.trans (q.mono (Xam bx));have d:Below g w7 aS:=N.trans (T.below (by omega) fun b hb=>by omega);have ah:=hid (show g<W9.heap.size/\Zd W9.heap.size j (.slice a (Z0 0 l).length c) (Z0 0 l) from ⟨bx,ae⟩);have aH:=hid T;have ai:=hid d;have bK:=hid (ab.out.trans (d.mono a2.out));have aB:=hid d4;have aC:=hid G;have bH:=hid (Ze4.below bX.out (d.mono (by rw [<- aK.out];exact Xc _)));have bo:=HZ.out.rows;have aM:=hid (BL.ZAe _ _ aS bH.out (by rw [XE];omega) (fun s hs=>by obtain ⟨r,hr,rfl⟩:=XY.1 hs;have:=(HZ.out.row r hr).2.2.1;omega));rw [XE] at aM;have aw:Hid (g<aS.heap.size):=hid (by have:=T.size;omega);clear ae q ao d2 d3 d4 T N d G z bD bO bq bi bc aI a0 a1;go_wp2_with (rw [aC.out])
 refine aM.out.mono ?_;rintro e au ⟨bl,bb,ac,rfl,x,_,_,aF⟩;have x:BL.FAt au bl bb ac (Zak (Zt l)):=x;have bw:=hid (BL.ZrL bl bb ac (Zak (Zt l)) au x);have y:=hid aF;clear x aF aM b0 b1 e0 e1 f0 f1;go_wp2_with fail;refine bw.out.mono ?_;rintro e B ⟨u15,rfl,ag,J⟩;obtain ⟨E,A,rfl,_⟩:=(Zd.brow ag).shape;have k:=y.out.trans (J.mono y.out.size);have av:=(k.block g aw.out).trans aB.out;have b0:=Zh av 4;have b1:=frozen_of_row B g 4 _ _ av;have z:=aX.out;have d5:(B.setCell ⟨g,4,none⟩ (.slice E (Zak (Zt l)).length A)).heap[g]? = some (.cells #[(.slice p7 (SM.encS l).length c7),(.slice a (Z0 0 l).length c),(.slice p5 (Zn (Zt l)).length c5),(.slice p6 (ZbJ (Z9 0 (Zt l))).length c6),(.slice E (Zak (Zt l)).length A),.slice none 0 0] 23 (0,0)):=heap_setCell_same B g 4 _ _ _ av;have C:=z B 4 (.slice E (Zak (Zt l)).length A);obtain ⟨a6,O⟩:=Xn (B.setCell ⟨g,4,none⟩ (.slice E (Zak (Zt l)).length A));rw [O] at d5 C;have bp:=aw.out;have b2:=y.out.size;have bY:=J.size;have o:Below g w7 a6:=(ai.out.trans (k.mono (Xam bp))).trans (C.below (by omega) fun b hb=>by omega);have ax:=hid ((aH.out.trans (Za _ k)).trans C);have aE:=hid C;have aa:=hid (show g<au.heap.size/\Zd au.heap.size B (.slice E (Zak (Zt l)).length A) (Zak (Zt l)) from ⟨by omega,ag⟩);have R:=hid o;have bk:=hid (ab.out.trans (o.mono a2.out));have aA:=hid d5;have aD:=hid O;have aG:Hid (g<a6.heap.size):=hid (by have:=C.size;omega);clear ag J k av d5 C o O z bw y bK aB aC aH ai;go_wp2_with (rw [aD.out])
 refine (bz.out _ bk.out).mono ?_;rintro e bV ⟨rfl,ay⟩;have HF:=hid (Zr3 (Zp l) bV bQ.out);have L:=hid ay;clear ay bz b0 b1;go_wp2_with fail;refine HF.out.mono ?_;rintro e ad ⟨u18,rfl,af,V⟩;obtain ⟨ar,aq,rfl,_⟩:=(Zd.brow af).shape;have f:=L.out.trans (V.mono L.out.size);have ap:=(f.block g aG.out).trans aA.out;have b0:=Zh ap 5;have b1:=frozen_of_row ad g 5 _ _ ap;have z:=aX.out;have d6:(ad.setCell ⟨g,5,none⟩ (.slice ar (Zdp (Zp l)).length aq)).heap[g]? = some (.cells #[(.slice p7 (SM.encS l).length c7),(.slice a (Z0 0 l).length c),(.slice p5 (Zn (Zt l)).length c5),(.slice p6 (ZbJ (Z9 0 (Zt l))).length c6),(.slice E (Zak (Zt l)).length A),(.slice ar (Zdp (Zp l)).length aq)] 23 (0,0)):=heap_setCell_same ad g 5 _ _ _ ap;have U:=z ad 5 (.slice ar (Zdp (Zp l)).length aq);obtain ⟨aO,aj⟩:=Xn (ad.setCell ⟨g,5,none⟩ (.slice ar (Zdp (Zp l)).length aq));rw [aj] at d6 U;have bt:=aG.out;have bZ:=L.out.size;have b3:=V.size;have m:Below g w7 aO:=(R.out.trans (f.mono (Xam bt))).trans (U.below (by omega) fun b hb=>by omega);have H:=(Za (fun b=>b≠g) f).trans U;have t:Below w7.heap.size w7 aO:=m.mono (by rw [<- aK.out];exact Xc _)
 have HQ:Hid (Znv (Zax l) w (.returned (.tuple #[.slice (some ⟨g,0,none⟩) 6 6,.int .i64 0])) aO):=hid
  ⟨_,rfl,ZmO d6 (Zq.below bU.out t) (ZmC ah.out.2 ah.out.1 (ax.out.trans H)) (Zq.below ba.out t) (Zq.below bg.out t) (ZmC aa.out.2 aa.out.1 (aE.out.trans H)) (ZmC af (by omega) U),ab.out.trans (m.mono a2.out)⟩
 have a7:=hid aj;clear af V f ap d6 U m aj z HF ax aE R H t ah aa aA aD;go_wp2_with (rw [a7.out])
 go_ret2;exact HQ.out
open RowKit MM GB
open DT (ZbT Zio Zuv)
theorem ZC7:Elem Zij prog 40 9 16:=⟨underlying40,by
 have h:(prog.info? 9).map (fun i=>(i.zero,i.size,i.bytes))=some (some (.string ⟨#[]⟩),1,16):=by kernel_rfl
 obtain ⟨i,b,c,a,d⟩:=info_parts h;exact ⟨i,_,b,c,a,d,rfl⟩⟩
theorem ZBB (S:Nat->Prop) (w:World) (s:Xu):Zdk Zij S (w.alloc (.cells #[.string ⟨s.toArray⟩] 9)) (.slice (some ⟨w.heap.size,0,none⟩) 1 1) [s]:=Zby 9 (show Zij.on S w [.string ⟨s.toArray⟩] s from rfl)
theorem ZA5 {B:Nat} {S:Nat->Prop} {w:World} {v:Value} {ss:List Xu} (h:Zz Zij 9 B S w v ss):Ze4 w v ss:=by
 obtain ⟨a,c,b⟩:=h
 have e:a=ss.map fun s=>[ZBA s]:=List.ext_getElem (by rw [XE];exact b.1) fun i hi d=>by
  have hs:i<ss.length:=by rw [<- b.1];exact hi
  rw [XaA];exact b.2 i hi hs
 rw [e,Zdb] at c;exact ZeE.trow c
theorem Zhi {w:World} {r s:Nat} {e h:TypeId} {s1 s2 m q:Nat} {j i:Value} {l n:List Value} (v:w.ownsRow r e s1 j m l) (o:w.ownsRow s h s2 i q n) (p:e≠h) {g:Nat} (d:j.ownBlock=some g):i.ownBlock≠some g:=fun c=>by
 rcases v.2 with ⟨rfl,_⟩|⟨g1,c1,f,rfl,_,b,_⟩
 ·cases d
 ·rcases o.2 with ⟨rfl,_⟩|⟨g2,c2,k,rfl,_,a,_⟩
  ·cases c
  ·cases d
   cases c
   rw [b] at a;simp only [Xv,Obj.cells.injEq] at a;exact p a.2.1
theorem ZAY {rows:List Znf} {k:Nat} (a:k<rows.length):(rows.take (k+1)).map (·.1)=(rows.take k).map (·.1)++[(rows[k]).1]:=by
 rw [XG a,XN];rfl
abbrev NoB:Nat->Prop:=fun _=>False
structure Gr (B:Nat) (w:World) (u x t:Value) (L:Xu) (es:List DM.ZQ) (ss:List Xu):Prop where
 u:Zd B w u L
 x:Zz ZbT 102 B NoB w x es
 t:Zz Zij 9 B NoB w t ss
variable {B : Nat} {w w' : World} {u x t : Value} {L : Xu} {es : List DM.ZQ} {ss : List Xu}
theorem Gr.below (h:Gr B w u x t L es ss) (a:Below w.heap.size w w'):Gr B w' u x t L es ss :=
 ⟨h.u.keep a,h.x.keep (Za (fun _=>True) a) (fun _ _ _=>trivial) fun _ _=>trivial,h.t.keep (Za (fun _=>True) a) (fun _ _ _=>trivial) fun _ _=>trivial⟩
theorem Gr.setX {d:Value} {a:List DM.ZQ} (h:Gr B w u x t L es ss) (j:Zz ZbT 102 B NoB w' d a) (e:Kep (fun b=>x.ownBlock≠some b) w w'):Gr B w' u d t L a ss:=by
 obtain ⟨r1,f,_⟩:=h.x;obtain ⟨r2,i,_⟩:=id h.t;exact ⟨Zd.kepOwn h.u e fun g c=>Zhi h.u f (by decide) c,j,h.t.keep e (fun _ _ h=>h.elim) fun g c=>Zhi i f (by decide) c⟩
theorem Gr.setT {d:Value} {a:List Xu} (h:Gr B w u x t L es ss) (j:Zz Zij 9 B NoB w' d a) (e:Kep (fun b=>t.ownBlock≠some b) w w'):Gr B w' u x d L es a:=by
 obtain ⟨r1,f,_⟩:=h.t;obtain ⟨r2,i,_⟩:=id h.x;exact ⟨Zd.kepOwn h.u e fun g c=>Zhi h.u f (by decide) c,h.x.keep e (fun _ _ h=>h.elim) fun g c=>Zhi i f (by decide) c,j⟩
theorem Gr.setU {u':Value} {c:Xu} (h:Gr B w u x t L es ss) (f:Zd B w' u' c) (d:Kep (fun b=>u.ownBlock≠some b) w w'):Gr B w' u' x t c es ss:=by
 obtain ⟨r1,i,_⟩:=id h.t;obtain ⟨r2,e,_⟩:=id h.x;exact ⟨f,h.x.keep d (fun _ _ h=>h.elim) fun g a=>Zhi e h.u (by decide) a,h.t.keep d (fun _ _ h=>h.elim) fun g a=>Zhi i h.u (by decide) a⟩
