import Derived.Shelf.SlIter.Nil
import Derived.Test.YtmomfobdpfajbaaGreatZA32
import Derived.Test.YtmomfobdpfajbaaGreatZA18
import Derived.Test.YtmomfobdpfajbaaGreatZA33
import Derived.Test.YtmomfobdpfajbaaGreatZA38
import Derived.Test.YtmomfobdpfajbaaGreatZA23
import Derived.Deep.OwnRows
set_option maxRecDepth 100000
set_option maxHeartbeats 0
set_option linter.unusedVariables false
set_option linter.unusedSimpArgs false
namespace Go.Proofs.YtmomfobdpfajbaaGreat
open Tryz
namespace SG
open RowKit MM Go.Maps SM
open EM (Zg Zbc ZX Zm)
theorem Zud:∀(a b:Xu),Zg a b=true->a<b
 | [],[],h=>by simp [Zg] at h
 | [],b::t,_=>List.nil_lt_cons b t
 | _::_,[],h=>by simp [Zg] at h
 | a::s,b::t,h=>by
   unfold Zg at h;rw [List.cons_lt_cons_iff]
   by_cases e:a=b
   ·rw [Xe e] at h;exact .inr ⟨e,Zud s t h⟩
   ·rw [Xc e] at h;exact .inl (UInt8.lt_iff_toNat_lt.2 (of_decide_eq_true h))
theorem ZrH {α:Type} {T:List (EM.Tr α)} {D:DataW Value} {w:World} {z m:Nat} {R:Value->Option (DataW Value×List MemPlace)} (f:w.ownsMap prog 9 R z m D) (A:ZX T) (C:∀n,Maps.has D (.string n)=true↔n∈T.map (·.1)) {u:List Xu}
  (hs:u.Perm (strKeys D)):u.mergeSort (fun x y=>decide (x<=y))=T.map (·.1):=by
 obtain ⟨es,rfl,H,_⟩:=f.entries ZfV
 have G:∀p∈es,∃x,p.1=.string x:=by
  obtain ⟨i,j,r⟩:=f.keysOf;have j:es=i:=by simpa using j
  subst j;intro p k;obtain ⟨v,E⟩:=r p k;obtain ⟨x,_,B,_⟩:=Maps.keyOf_str underlying9 E;exact ⟨x,B⟩
 have d:(T.map (·.1)).Pairwise (fun a b=>Zg a b=true):=by
  rw [List.pairwise_map];exact A
 have o:(T.map (·.1)).Nodup:=d.imp fun {a b} h e=>by
  rw [e,Zbc] at h;cases h
 have g:(T.map (·.1)).Perm (strKeys (.map es)):=perm_strKeys H G o fun x=>(C x).symm;have l:=mergeSort_of_perm (hs.trans g.symm)
 have q:(T.map (·.1)).mergeSort leB=T.map (·.1):=by
  have I:∀a b c:Xu,leB a b=true->leB b c=true->leB a c=true:=fun a b c l q=>by simp only [leB,Xg] at *;exact List.le_trans l q
  have F:∀a b:Xu,(leB a b||leB b a)=true:=fun a b=>by simp only [leB,Bool.or_eq_true,Xg];exact List.le_total a b
  refine List.Perm.eq_of_pairwise (le:=fun a b=>leB a b=true) (fun a b _ _ t s => ?_) (List.pairwise_mergeSort I F _) (d.imp fun {a b} h => ?_) (List.mergeSort_perm _ leB)
  ·simp only [leB,Xg] at t s;exact List.le_antisymm t s
  ·simp only [leB,Xg];exact List.le_of_lt (Zud a b h)
 exact l.trans q
end SG
end Go.Proofs.YtmomfobdpfajbaaGreat
namespace Go.Proofs
open Go.Shelf
def Tryz.keys77_ren:Go.Shelf.Ren:=⟨fun|7=>77|10=>128|n=>n,fun|23=>136|26=>9|3=>47|28=>141|0=>0|27=>140|33=>50|4=>4|n=>n,fun|n=>n⟩
theorem Tryz.keys77:Go.Proofs.SlLaysZ.n7 Tryz.prog Tryz.keys77_ren:={
 mixed:=by kernel_rfl
 f7:=⟨Tryz.f77.name,by decide,Tryz.func77.trans (congrArg some (by kernel_rfl))⟩
 f10:=⟨Tryz.f128.name,by decide,Tryz.func128.trans (congrArg some (by kernel_rfl))⟩
 t0:=Tryz.underlying0
 a0:=Tryz.isAgg0
 z0:=Tryz.sizeOf0
 v0:=Tryz.zeroValue0
 t4:=Tryz.underlying4
 a4:=Tryz.isAgg4
 z4:=Tryz.sizeOf4
 v4:=Tryz.zeroValue4
 t23:=Tryz.underlying136
 a23:=Tryz.isAgg136
 z23:=Tryz.sizeOf136
 v23:=Tryz.zeroValue136
 t26:=Tryz.underlying9
 a26:=Tryz.isAgg9
 z26:=Tryz.sizeOf9
 v26:=Tryz.zeroValue9
 t27:=Tryz.underlying140
 a27:=Tryz.isAgg140
 z27:=Tryz.sizeOf140
 v27:=Tryz.zeroValue140
 t28:=Tryz.underlying141
 a28:=Tryz.isAgg141
 z28:=Tryz.sizeOf141
 v28:=Tryz.zeroValue141
 t33:=Tryz.underlying50
 a33:=Tryz.isAgg50
 z33:=Tryz.sizeOf50
 v33:=Tryz.zeroValue50 }
def Tryz.sorted76_ren:Go.Shelf.Ren:=⟨fun|6=>76|8=>126|9=>127|11=>186|13=>188|12=>187|23=>237|24=>238|14=>228|15=>229|16=>230|17=>231|18=>232|19=>233|20=>234|21=>235|22=>236|25=>258|26=>259|27=>260|28=>261|29=>262|30=>227|31=>275|n=>n,fun|26=>9|28=>141|24=>40|0=>0|3=>3|37=>185|48=>183|50=>180|4=>4|40=>297|39=>296|45=>289|5=>5|9=>9|51=>317|55=>321|57=>331|58=>261|33=>50|n=>n,fun|n=>n⟩
theorem Tryz.sorted76:Go.Proofs.SlLaysZ.n6 Tryz.prog Tryz.sorted76_ren:={
 mixed:=by kernel_rfl
 f6:=⟨Tryz.f76.name,by decide,Tryz.func76.trans (congrArg some (by kernel_rfl))⟩
 f8:=⟨Tryz.f126.name,by decide,Tryz.func126.trans (congrArg some (by kernel_rfl))⟩
 f11:=⟨Tryz.f186.name,by decide,Tryz.func186.trans (congrArg some (by kernel_rfl))⟩
 t0:=Tryz.underlying0
 a0:=Tryz.isAgg0
 z0:=Tryz.sizeOf0
 v0:=Tryz.zeroValue0
 t24:=Tryz.underlying40
 a24:=Tryz.isAgg40
 z24:=Tryz.sizeOf40
 v24:=Tryz.zeroValue40
 t26:=Tryz.underlying9
 a26:=Tryz.isAgg9
 z26:=Tryz.sizeOf9
 v26:=Tryz.zeroValue9
 t28:=Tryz.underlying141
 a28:=Tryz.isAgg141
 z28:=Tryz.sizeOf141
 v28:=Tryz.zeroValue141
 i26:=by kernel_rfl }
def Tryz.sort127_ren:Go.Shelf.Ren:=⟨fun|6=>127|8=>188|9=>187|19=>237|20=>238|21=>228|22=>229|23=>230|24=>231|25=>232|26=>233|27=>234|28=>235|29=>236|36=>258|31=>259|32=>260|37=>261|38=>262|39=>227|41=>275|n=>n,fun|27=>40|29=>9|3=>3|32=>185|26=>40|0=>0|44=>183|46=>180|4=>4|36=>297|35=>296|41=>289|5=>5|9=>9|53=>317|57=>321|63=>331|64=>261|n=>n,fun|n=>n⟩
theorem Tryz.sort127:Go.Proofs.SlLaysM.n6 Tryz.prog Tryz.sort127_ren:={
 mixed:=by kernel_rfl
 f6:=⟨Tryz.f127.name,by decide,Tryz.func127.trans (congrArg some (by kernel_rfl))⟩
 f8:=Tryz.func188.trans (congrArg some (by kernel_rfl))
 f9:=⟨Tryz.f187.name,by decide,Tryz.func187.trans (congrArg some (by kernel_rfl))⟩
 f19:=Tryz.func237.trans (congrArg some (by kernel_rfl))
 f20:=Tryz.func238.trans (congrArg some (by kernel_rfl))
 f21:=⟨Tryz.f228.name,by decide,Tryz.func228.trans (congrArg some (by kernel_rfl))⟩
 f22:=⟨Tryz.f229.name,by decide,Tryz.func229.trans (congrArg some (by kernel_rfl))⟩
 f23:=⟨Tryz.f230.name,by decide,Tryz.func230.trans (congrArg some (by kernel_rfl))⟩
 f24:=⟨Tryz.f231.name,by decide,Tryz.func231.trans (congrArg some (by kernel_rfl))⟩
 f25:=⟨Tryz.f232.name,by decide,Tryz.func232.trans (congrArg some (by kernel_rfl))⟩
 f26:=⟨Tryz.f233.name,by decide,Tryz.func233.trans (congrArg some (by kernel_rfl))⟩
 f27:=⟨Tryz.f234.name,by decide,Tryz.func234.trans (congrArg some (by kernel_rfl))⟩
 f28:=⟨Tryz.f235.name,by decide,Tryz.func235.trans (congrArg some (by kernel_rfl))⟩
 f29:=⟨Tryz.f236.name,by decide,Tryz.func236.trans (congrArg some (by kernel_rfl))⟩
 f31:=Tryz.func259.trans (congrArg some (by kernel_rfl))
 f32:=Tryz.func260.trans (congrArg some (by kernel_rfl))
 f36:=⟨Tryz.f258.name,by decide,Tryz.func258.trans (congrArg some (by kernel_rfl))⟩
 f37:=⟨Tryz.f261.name,by decide,Tryz.func261.trans (congrArg some (by kernel_rfl))⟩
 f38:=⟨Tryz.f262.name,by decide,Tryz.func262.trans (congrArg some (by kernel_rfl))⟩
 f39:=⟨Tryz.f227.name,by decide,Tryz.func227.trans (congrArg some (by kernel_rfl))⟩
 f41:=⟨Tryz.f275.name,by decide,Tryz.func275.trans (congrArg some (by kernel_rfl))⟩
 t0:=Tryz.underlying0
 a0:=Tryz.isAgg0
 z0:=Tryz.sizeOf0
 v0:=Tryz.zeroValue0
 t3:=Tryz.underlying3
 a3:=Tryz.isAgg3
 z3:=Tryz.sizeOf3
 v3:=Tryz.zeroValue3
 t4:=Tryz.underlying4
 a4:=Tryz.isAgg4
 z4:=Tryz.sizeOf4
 v4:=Tryz.zeroValue4
 t5:=Tryz.underlying5
 a5:=Tryz.isAgg5
 z5:=Tryz.sizeOf5
 v5:=Tryz.zeroValue5
 t9:=Tryz.underlying9
 a9:=Tryz.isAgg9
 z9:=Tryz.sizeOf9
 v9:=Tryz.zeroValue9
 t26:=Tryz.underlying40
 a26:=Tryz.isAgg40
 z26:=Tryz.sizeOf40
 v26:=Tryz.zeroValue40
 t27:=Tryz.underlying40
 a27:=Tryz.isAgg40
 z27:=Tryz.sizeOf40
 v27:=Tryz.zeroValue40
 t29:=Tryz.underlying9
 a29:=Tryz.isAgg9
 z29:=Tryz.sizeOf9
 v29:=Tryz.zeroValue9
 t32:=Tryz.underlying185
 a32:=Tryz.isAgg185
 z32:=Tryz.sizeOf185
 v32:=Tryz.zeroValue185
 t35:=Tryz.underlying296
 a35:=Tryz.isAgg296
 z35:=Tryz.sizeOf296
 v35:=Tryz.zeroValue296
 t36:=Tryz.underlying297
 a36:=Tryz.isAgg297
 z36:=Tryz.sizeOf297
 v36:=Tryz.zeroValue297
 t41:=Tryz.underlying289
 a41:=Tryz.isAgg289
 z41:=Tryz.sizeOf289
 v41:=Tryz.zeroValue289
 t44:=Tryz.underlying183
 a44:=Tryz.isAgg183
 z44:=Tryz.sizeOf183
 v44:=Tryz.zeroValue183
 t46:=Tryz.underlying180
 a46:=Tryz.isAgg180
 z46:=Tryz.sizeOf180
 v46:=Tryz.zeroValue180
 t53:=Tryz.underlying317
 a53:=Tryz.isAgg317
 z53:=Tryz.sizeOf317
 v53:=Tryz.zeroValue317
 t57:=Tryz.underlying321
 a57:=Tryz.isAgg321
 z57:=Tryz.sizeOf321
 v57:=Tryz.zeroValue321
 t63:=Tryz.underlying331
 a63:=Tryz.isAgg331
 z63:=Tryz.sizeOf331
 v63:=Tryz.zeroValue331
 t64:=Tryz.underlying261
 a64:=Tryz.isAgg261
 z64:=Tryz.sizeOf261
 v64:=Tryz.zeroValue261 }
open Go.RowKit Go.Maps Go.Sort in
theorem Tryz.sorts76 (m:Nat):AnyZ.SortsIn Tryz.prog Tryz.sorted76_ren Fence.wide m :=
 ⟨fun d off a f W e b c=>callsIn_wide.2 (AnyM.slices_Sort_string Tryz.sort127 d off a f W e b c),
  fun p a W=>callsIn_wide.2 (AnyM.slices_Sort_string_none Tryz.sort127 p a W)⟩
open Go.RowKit Go.Maps Go.Sort in
theorem Tryz.maps_Keys_77 (a:Option Nat) (W:World):CallsIn Fence.wide 5 Tryz.prog 77 #[.map a] W fun e w'=>e=.returned (.func (.func 128) #[] #[.pointer (some ⟨W.heap.size,0,none⟩)])/\w'=W.alloc (.cells #[.map a] 136) :=
 AnyZ.keys_in Tryz.keys77 Fence.wide 5 trivial rfl a W
open Go.RowKit Go.Maps Go.Sort in
theorem Tryz.slices_Sorted_keys_76_77 {H:Type} (b j:Nat) (d:DataW H) (R:Value->Option (DataW H×List MemPlace)) (w:World) (a:w.ownsMap Tryz.prog 9 R b j d) (g:Maps.size d<=maxLen) (ZdD:Maps.size d*16<=140737488355328) :
  CallsIn Fence.wide 5 Tryz.prog 76 #[.func (.func 128) #[] #[.pointer (some ⟨w.heap.size,0,none⟩)]] (w.alloc (.cells #[.map (some b)] 136)) fun e w'=>∃(v:Value) (f:List (List UInt8)),e=.returned v/\f.Perm (strKeys d) /\
   w'.ownsRow (w.alloc (.cells #[.map (some b)] 136)).heap.size 9 1 v f.length ((f.mergeSort (fun x y=>decide (x<=y))).map encStr)/\(v=.slice none 0 0↔f=[])/\Below (w.alloc (.cells #[.map (some b)] 136)).heap.size (w.alloc (.cells #[.map (some b)] 136)) w':=by
 have i:=a.lt
 have h:SeqGives Fence.wide 2 Tryz.prog 128 #[.pointer (some ⟨w.heap.size,0,none⟩)] encStr (fun f=>f.Perm (strKeys d)) (Maps.size d) (w.alloc (.cells #[.map (some b)] 136)) :=
  AnyZ.keys_gives (ρ:=Tryz.keys77_ren) { Tryz.keys77 with } Fence.wide _ trivial rfl (by omega) w.heap.size b j d _ (by simp) (by simp) (by
   obtain ⟨es,c,l,m,hs,k⟩:=a;exact ⟨es,c,(Below.heap_alloc _ _ b i).trans l,m,hs,k⟩)
 exact AnyZ.sorted_in Tryz.sorted76 Fence.wide 5 trivial trivial trivial trivial rfl (by omega) (Tryz.sorts76 _) (enters_of Tryz.func127 (by kernel_rfl) rfl) 128 #[.pointer (some ⟨w.heap.size,0,none⟩)] trivial (enters_of Tryz.func128 (by kernel_rfl) rfl) _ _ g ZdD _ h
end Go.Proofs
namespace Go.Proofs.YtmomfobdpfajbaaGreat
open Tryz
namespace SG
open RowKit MM Go.Maps
open EV (ZD Zae)
open SM (Zq isS ZaS)
open GM (ZbV sized ZcD Zax Zp Zl ZS Z3 Z8 Zdo Zj)
open CR (Za7)
open DM (ZbD)
open EM (Zm)
variable {w:World} {g:Nat}
def ZnA (L:List Xu) (w:World) (e:Ending) (w':World):Prop:=∃v,e=.returned (.tuple #[v,.int .i64 0])/\Za7 w' v L/\Below w.heap.size w w'
theorem ZvX {α:Type} {T:List (EM.Tr α)} (h:∀t∈T,t.2≠[]) (s:Xu):Zm T s≠[]↔s∈T.map (·.1):=by
 constructor
 ·exact EV.Zcy
 ·intro a e
  induction T with
  | nil=>simp at a
  | cons t T ih =>
    rw [Zm] at e
    by_cases hs:t.1=s
    ·rw [Xe hs] at e;exact h t (by simp) e
    ·rw [Xc hs] at e;rw [XC,XT] at a;exact ih (fun u b=>h u (Xa6 _ b)) (a.resolve_left fun h=>hs h.symm) e
theorem ZyF:∀(l:List Zq) (a:Int),(-9223372036854775808<=a/\a<=9223372036854775807)->ZaS l -> -9223372036854775808<=Zji a l/\Zji a l<=9223372036854775807
 | [],a,h,_=>h
 | d::l,a,h,hf=>by
   have c:=hf d (by simp);unfold EM.ZiS at c;exact ZyF l (min a d.2.1) ⟨by omega,by omega⟩ fun x b=>hf x (Xa6 _ b)
theorem Zt6:∀(l:List Zq) (a:Int),(-9223372036854775808<=a/\a<=9223372036854775807)->ZaS l -> -9223372036854775808<=Zfa a l/\Zfa a l<=9223372036854775807
 | [],a,h,_=>h
 | d::l,a,h,hf=>by
   have c:=hf d (by simp);unfold EM.ZiS at c;exact Zt6 l (max a d.2.1) ⟨by omega,by omega⟩ fun x b=>hf x (Xa6 _ b)
theorem Zt2 {l:List Zq} (a:isS l=true) (hf:ZaS l) (e:l≠[]):∀z∈[(Zj l).1,(Zj l).2.1,(Zj l).2.2.1,(Zj l).2.2.2.1,((Zj l).2.2.2.2:Int)], -9223372036854775808<=z/\z<=9223372036854775807:=by
 have hn:=Xaa.2 e;obtain ⟨n,b⟩:∃n,l.length=n+1:=⟨l.length - 1,by omega⟩;have hl:=(SM.Zcv.1 a).1;have e0:=SM.Zge a (k:=0) (by omega);have en:=SM.Zge a (k:=n) (by omega);have p0:=SM.Zcw a (k:=0) (by omega);have pn:=SM.Zcw a (k:=n) (by omega);have d:=hf l[0] (XI _);have f:=ZyF l l[0].2.1 d hf;have h:=Zt6 l l[0].2.1 d hf;rw [ZqC b];intro z c;simp only [XT,Xbk,or_false] at c;rcases c with rfl|rfl|rfl|rfl|rfl
 ·exact f
 ·exact h
 ·exact ⟨by omega,by omega⟩
 ·exact ⟨by omega,by omega⟩
 ·exact ⟨by omega,by omega⟩
theorem ZmS {c0 c1 c2 c3 a b:Value} {d j f k l c:Xu} (h:w.heap[g]? = some (.cells #[c0,c1,c2,c3,a,b] 23 (0,0))) (o:Zv w c0 d) (p:Zv w c1 j) (q:Zv w c2 f) (n:Zv w c3 k) (r:Zv w a l) (m:Zv w b c) :
  Za7 w (.slice (some ⟨g,0,none⟩) 6 6) [d,j,f,k,l,c]:=by
 refine ⟨[c0,c1,c2,c3,a,b],⟨_,_,rfl,Xa _,by unfold maxLen;simp,(fun e=>by cases e),.inr ⟨g,0,rfl,(Xq.1 h).1,fun i u hi => ?_⟩⟩,rfl,fun i hi => ?_⟩
 ·rw [XL,Zf h i];simpa using hi
 ·match i,hi with
  | 0,_=>exact ⟨_,rfl,o⟩
  | 1,_=>exact ⟨_,rfl,p⟩
  | 2,_=>exact ⟨_,rfl,q⟩
  | 3,_=>exact ⟨_,rfl,n⟩
  | 4,_=>exact ⟨_,rfl,r⟩
  | 5,_=>exact ⟨_,rfl,m⟩
theorem ZyI (W:World):(Instr.makeSlice 92 (.int .i64 6) (.int .i64 6)).run prog W=.ok (.slice (some ⟨W.heap.size,0,none⟩) 6 6) (W.alloc (.cells #[.slice none 0 0,.slice none 0 0,.slice none 0 0,.slice none 0 0,.slice none 0 0,.slice none 0 0] 23)):=by
 have h:=run_make_row' (P:=prog) 92 23 (.slice none 0 0) 24 underlying92 (by kernel_rfl) rfl .i64 .i64 6 (by omega) (by omega) W;have e:madeCells #[(.slice none 0 0:Value)] 6=#[.slice none 0 0,.slice none 0 0,.slice none 0 0,.slice none 0 0,.slice none 0 0,.slice none 0 0]:=by kernel_rfl
 rw [e] at h;exact h
theorem ZmG {B:Nat} {w':World} {v:Value} {l:Xu} (h:Zd B w v l) (hB:g<B) (c:Kep (fun b=>b≠g) w w'):Zv w' v l :=
 Zd.brow (GB.Zd.kepOwn h c fun k a e=>by have:=(World.ownsRow.lt h k a).1;omega)
theorem Zwh (v:Value) (l:List Zq) (w:World) (hv:ZF ZD w v l) (hS:isS l=true) (aR:ZbV l) (Z:ZaS l) (h0:l≠[]):Calls prog 39 #[v] w (ZnA (Zax l) w):=by
 have bU:=Y4 (Zt2 hS Z h0);have hz:=sized hS aR;have bA:=hz.texts;have aP:=Y4 (Zwi v l w hv bA);have bq:=Y4 (fun W (hW:Below w.heap.size w W)=>Zza v l W (hv.below hW) hS aR);have bw:=Y4 (fun W (hW:Below w.heap.size w W)=>(show Calls _ _ _ W (ST.ZtF (SM.encS l) 0 W) by have h:=ST.Zxl v l W (hv.below hW) Z;rw [hS,Xe rfl,Xe rfl] at h;exact h));have bl:=Y4 (fun W (hW:Below w.heap.size w W)=>Zwr v l W (hv.below hW) (by have:=hz.docs.1;omega));have bn:=Y4 (fun W (hW:Below w.heap.size w W)=>Zma v l W (hv.below hW) h0);obtain ⟨p,b6,rfl,b5,bX,_⟩:=hv.shape;unfold maxLen at bX;have HZ:=Y4 hz;obtain ⟨SW,bQ⟩:=Xn (ZcD l);rw [bQ] at aP bA;have q1:decide ((SW:Int)>16777216)=false:=Xf;have q2:decide (16777216<SW)=false:=Xf;clear hv hz hS aR Z h0 bQ;go_enter func39,ntmps39;go_wp2_with fail;refine aP.z.mono ?_;rintro e w1 ⟨rfl,bv⟩;have au:=Y4 bv;clear bv aP;go_wp2_with fail;refine (bq.z _ au.z).mono ?_;rintro e w2 ⟨mb,X,F,rfl,hT,ba⟩;have bC:=Y4 (au.z.trans (ba.mono au.z.size));have bx:=Y4 hT;have bP:=hT.map;obtain ⟨D,hD,aS,bB⟩:=bP;have bf:=HZ.z.rows;have hK:=callsIn_wide.1 (Tryz.maps_Keys_77 (some mb) w2);have aY:Below w2.heap.size w2 (w2.alloc (.cells #[.map (some mb)] 136)):=(Below.refl _ _).alloc (Xa _) _;have bV:=SM.Zrc hD (Za (fun _=>True) aY) trivial;have bg:=callsIn_wide.1 (Tryz.slices_Sorted_keys_76_77 mb (Zp l).length D SM.R0 w2 hD (by rw [aS];unfold maxLen;omega) (by rw [aS];omega));have HN:=Y4 (fun (ss:List Xu) (hp:ss.Perm (strKeys D))=>ZrH hD hT.rise (fun n=>by rw [(bB n).1,hT.some_iff n];exact ZvX hT.ne n) hp);have HK:=Y4 hK;have HS:=Y4 bg;have bK:=Y4 aY;clear hT ba hD aS bB hK aY bV bg bq;go_wp2_with fail;refine HK.z.mono ?_;rintro e w3 ⟨rfl,bR⟩;subst bR;go_wp2_with fail;refine HS.z.mono ?_;rintro e w4 ⟨v4,ss,rfl,hp,ac,_,bD⟩;rw [HN.z ss hp] at ac;have ak:=bK.z.trans (bD.mono (by simp));have ap:ZcF w4 v4 ((Zp l).map (·.1)):=Row.of_own ac;obtain ⟨pt,ct,bm,_⟩:=TIn.shape ap;rw [XF] at bm;subst bm;have bk:=Y4 ap;have bi:=Y4 (bC.z.trans (ak.mono bC.z.size));have a8:=Y4 (Zzv _ _ mb X F (Zp l) w4 ap (bx.z.below ak) HZ.z.row bf HZ.z.posts);clear hp ac bD ak ap HK HS HN bK bx au;go_wp2_with fail;refine a8.z.mono ?_;rintro e w5 ⟨u5,x5,rfl,aT,aK,aL⟩;obtain ⟨p5,c5,rfl,_⟩:=(Zd.brow aT).shape;have bh:=Y4 (Zd.brow aT);have bp:=Y4 (bi.z.trans (aL.mono bi.z.size));have bN:=Y4 (ZcF.below bk.z aL);obtain ⟨px,cx,rfl,_⟩:=aK.shape;have aZ:=DT.Ze5 _ _ w5 aK;rw [HZ.z.are,Xe rfl,Xe rfl] at aZ;have bs:=Y4 aZ;clear aT aK aL a8 bk aZ;go_wp2_with fail;refine bs.z.mono ?_;rintro e w6 ⟨u6,rfl,aV,av⟩;obtain ⟨p6,c6,rfl,_⟩:=(Zd.brow aV).shape;have br:=Y4 (Zd.brow aV);have aE:=Y4 (Zv.below bh.z av);have bJ:=Y4 (ZcF.below bN.z av);have aU:=Y4 (bp.z.trans (av.mono bp.z.size));clear aV av bs bh bN;go_wp2_with fail;refine (bw.z _ aU.z).mono ?_;rintro e U ⟨u7,rfl,aM,H⟩;obtain ⟨p7,c7,rfl,_⟩:=(Zd.brow aM).shape;have bW:=Y4 (Zd.brow aM);have bj:=Y4 (Zv.below br.z H);have bI:=Y4 (Zv.below aE.z H);have bY:=Y4 (ZcF.below bJ.z H);have ab:=Y4 (aU.z.trans (H.mono aU.z.size));clear aM H bw br aE bJ;have b8:=ZyI;obtain ⟨g,hg⟩:=Xn U.heap.size;obtain ⟨W8,an⟩:=Xn (U.alloc (.cells #[.slice none 0 0,.slice none 0 0,.slice none 0 0,.slice none 0 0,.slice none 0 0,.slice none 0 0] 23));have aO:Below U.heap.size U W8:=by rw [<- an];exact (Below.refl _ _).alloc (Xa _) _
 have g8:W8.heap[g]? = some (.cells #[.slice none 0 0,.slice none 0 0,.slice none 0 0,.slice none 0 0,.slice none 0 0,.slice none 0 0] 23 (0,0)):=by rw [<- an,<- hg];exact heap_alloc_new _ _
 have a3:w.heap.size<=g:=by have:=ab.z.size;omega
 have bO:g<W8.heap.size:=(Xq.1 g8).1;have a0:=Zf g8 0;have a1:=frozen_of_row W8 g 0 _ _ g8;have y:=fun (W:World) (i:Nat) (u:Value)=>(Zy (S:=fun b=>b≠g) (w:=W) (g:=g) (i:=i) (fun h=>h rfl) u);have g9:(W8.setCell ⟨g,0,none⟩ (.slice p7 (SM.encS l).length c7)).heap[g]? = some (.cells #[(.slice p7 (SM.encS l).length c7),.slice none 0 0,.slice none 0 0,.slice none 0 0,.slice none 0 0,.slice none 0 0] 23 (0,0)):=heap_setCell_same W8 g 0 _ _ _ g8;obtain ⟨W9,a4⟩:=Xn (W8.setCell ⟨g,0,none⟩ (.slice p7 (SM.encS l).length c7));have k9:=y W8 0 (.slice p7 (SM.encS l).length c7);rw [a4] at g9 k9;rw [hg] at aO;have aQ:Below g U W9:=aO.trans (k9.below (Xal bO) fun b hb=>by omega);have aA:=Y4 aQ;have bt:=Y4 (ab.z.trans (aQ.mono a3));have bc:=Y4 g9;have bL:=Y4 an;have bz:=Y4 a4;have aN:=Y4 hg;have a5:=Y4 y;have aX:=Y4 a3;have bS:W8.heap.size<=W9.heap.size:=k9.size;have bM:Y5 (g<W9.heap.size):=Y4 (by omega);clear an a4 hg aO g8 g9 k9 aQ y a3 bO bS;go_wp2_with (first|(rw [bL.z])|(rw [bz.z])|(rw [aN.z]))
 refine (bl.z _ bt.z).mono ?_;rintro e k ⟨⟨u10,rfl,ag⟩,z⟩;obtain ⟨c,a,rfl,_⟩:=(Zd.brow ag).shape;have ao:=(z.block g bM.z).trans bc.z;have b0:=Zf ao 1;have b1:=frozen_of_row k g 1 _ _ ao;have y:=a5.z;have d2:(k.setCell ⟨g,1,none⟩ (.slice c (Z3 0 l).length a)).heap[g]? = some (.cells #[(.slice p7 (SM.encS l).length c7),(.slice c (Z3 0 l).length a),.slice none 0 0,.slice none 0 0,.slice none 0 0,.slice none 0 0] 23 (0,0)):=heap_setCell_same k g 1 _ _ _ ao;have e0:=Zf d2 2;have e1:=frozen_of_row _ g 2 _ _ d2;have d3:((k.setCell ⟨g,1,none⟩ (.slice c (Z3 0 l).length a)).setCell ⟨g,2,none⟩ (.slice p5 (Zl (Zp l)).length c5)).heap[g]? = some (.cells #[(.slice p7 (SM.encS l).length c7),(.slice c (Z3 0 l).length a),(.slice p5 (Zl (Zp l)).length c5),.slice none 0 0,.slice none 0 0,.slice none 0 0] 23 (0,0)):=heap_setCell_same _ g 2 _ _ _ d2;have f0:=Zf d3 3;have f1:=frozen_of_row _ g 3 _ _ d3;have d4:(((k.setCell ⟨g,1,none⟩ (.slice c (Z3 0 l).length a)).setCell ⟨g,2,none⟩ (.slice p5 (Zl (Zp l)).length c5)).setCell ⟨g,3,none⟩ (.slice p6 (ZbD (ZS 0 (Zp l))).length c6)).heap[g]? = some (.cells #[(.slice p7 (SM.encS l).length c7),(.slice c (Z3 0 l).length a),(.slice p5 (Zl (Zp l)).length c5),(.slice p6 (ZbD (ZS 0 (Zp l))).length c6),.slice none 0 0,.slice none 0 0] 23 (0,0)):=heap_setCell_same _ g 3 _ _ _ d3;have aa:=((y k 1 (.slice c (Z3 0 l).length a)).trans (y _ 2 (.slice p5 (Zl (Zp l)).length c5))).trans (y _ 3 (.slice p6 (ZbD (ZS 0 (Zp l))).length c6));obtain ⟨a6,Y⟩:=Xn (((k.setCell ⟨g,1,none⟩ (.slice c (Z3 0 l).length a)).setCell ⟨g,2,none⟩ (.slice p5 (Zl (Zp l)).length c5)).setCell ⟨g,3,none⟩ (.slice p6 (ZbD (ZS 0 (Zp l))).length c6));rw [Y] at d4 aa;have b7:=z.size;have a9:=bM.z;have ad:Below g U k:=aA.z.trans (z.mono (Xal a9));have j:Below g U a6:=ad.trans (aa.below (by omega) fun b hb=>by omega);have N:=Y4 (show g<W9.heap.size/\Zd W9.heap.size k (.slice c (Z3 0 l).length a) (Z3 0 l) from ⟨a9,ag⟩);have aJ:=Y4 aa;have ae:=Y4 j;have be:=Y4 (ab.z.trans (j.mono aX.z));have aH:=Y4 d4;have aI:=Y4 Y;have bH:=Y4 (ZcF.below bY.z (j.mono (by rw [<- aN.z];exact Xa _)));have bf:=HZ.z.rows;have a2:=Y4 (BL.ZAy _ _ a6 bH.z (by rw [XF];omega) (fun s hs=>by obtain ⟨r,hr,rfl⟩:=X4.1 hs;have:=(HZ.z.row r hr).2.2.1;omega));rw [XF] at a2;have aG:Y5 (g<a6.heap.size):=Y4 (by have:=aa.size;omega);clear ag z ao d2 d3 d4 aa ad j Y y bl bL bz bt bc aA a0 a1;go_wp2_with (rw [aI.z])
 refine a2.z.mono ?_;rintro e ar ⟨bG,bb,M,rfl,q,_,_,aF⟩;have q:BL.FAt ar bG bb M (Z8 (Zp l)):=q;have bF:=Y4 (BL.Zsf bG bb M (Z8 (Zp l)) ar q);have x:=Y4 aF;clear q aF a2 b0 b1 e0 e1 f0 f1;go_wp2_with fail;refine bF.z.mono ?_;rintro e C ⟨u15,rfl,L,O⟩;obtain ⟨A,E,rfl,_⟩:=(Zd.brow L).shape;have f:=x.z.trans (O.mono x.z.size);have am:=(f.block g aG.z).trans aH.z;have b0:=Zf am 4;have b1:=frozen_of_row C g 4 _ _ am;have y:=a5.z;have d5:(C.setCell ⟨g,4,none⟩ (.slice A (Z8 (Zp l)).length E)).heap[g]? = some (.cells #[(.slice p7 (SM.encS l).length c7),(.slice c (Z3 0 l).length a),(.slice p5 (Zl (Zp l)).length c5),(.slice p6 (ZbD (ZS 0 (Zp l))).length c6),(.slice A (Z8 (Zp l)).length E),.slice none 0 0] 23 (0,0)):=heap_setCell_same C g 4 _ _ _ am;have B:=y C 4 (.slice A (Z8 (Zp l)).length E);obtain ⟨bu,af⟩:=Xn (C.setCell ⟨g,4,none⟩ (.slice A (Z8 (Zp l)).length E));rw [af] at d5 B;have bo:=aG.z;have bZ:=x.z.size;have b4:=O.size;have o:Below g U bu:=(ae.z.trans (f.mono (Xal bo))).trans (B.below (by omega) fun b hb=>by omega);have aC:=Y4 ((aJ.z.trans (Za _ f)).trans B);have ax:=Y4 B;have aj:=Y4 (show g<ar.heap.size/\Zd ar.heap.size C (.slice A (Z8 (Zp l)).length E) (Z8 (Zp l)) from ⟨by omega,L⟩);have ah:=Y4 o;have bd:=Y4 (ab.z.trans (o.mono aX.z));have az:=Y4 d5;have aD:=Y4 af;have ay:Y5 (g<bu.heap.size):=Y4 (by have:=B.size;omega);clear L O f am d5 B o af y bF x be aH aI aJ ae;go_wp2_with (rw [aD.z])
 refine (bn.z _ bd.z).mono ?_;rintro e bT ⟨rfl,aB⟩;have HF:=Y4 (Zsy (Zj l) bT bU.z);have G:=Y4 aB;clear aB bn b0 b1;go_wp2_with fail;refine HF.z.mono ?_;rintro e I ⟨u18,rfl,J,T⟩;obtain ⟨aw,al,rfl,_⟩:=(Zd.brow J).shape;have d:=G.z.trans (T.mono G.z.size);have aq:=(d.block g ay.z).trans az.z;have b0:=Zf aq 5;have b1:=frozen_of_row I g 5 _ _ aq;have y:=a5.z;have d6:(I.setCell ⟨g,5,none⟩ (.slice aw (Zdo (Zj l)).length al)).heap[g]? = some (.cells #[(.slice p7 (SM.encS l).length c7),(.slice c (Z3 0 l).length a),(.slice p5 (Zl (Zp l)).length c5),(.slice p6 (ZbD (ZS 0 (Zp l))).length c6),(.slice A (Z8 (Zp l)).length E),(.slice aw (Zdo (Zj l)).length al)] 23 (0,0)):=heap_setCell_same I g 5 _ _ _ aq;have V:=y I 5 (.slice aw (Zdo (Zj l)).length al);obtain ⟨aW,R⟩:=Xn (I.setCell ⟨g,5,none⟩ (.slice aw (Zdo (Zj l)).length al));rw [R] at d6 V;have a7:=ay.z;have b3:=G.z.size;have b2:=T.size;have m:Below g U aW:=(ah.z.trans (d.mono (Xal a7))).trans (V.below (by omega) fun b hb=>by omega);have ai:=(Za (fun b=>b≠g) d).trans V;have t:Below U.heap.size U aW:=m.mono (by rw [<- aN.z];exact Xa _)
 have HQ:Y5 (ZnA (Zax l) w (.returned (.tuple #[.slice (some ⟨g,0,none⟩) 6 6,.int .i64 0])) aW):=Y4
  ⟨_,rfl,ZmS d6 (Zv.below bW.z t) (ZmG N.z.2 N.z.1 (aC.z.trans ai)) (Zv.below bI.z t) (Zv.below bj.z t) (ZmG aj.z.2 aj.z.1 (ax.z.trans ai)) (ZmG J (by omega) V),ab.z.trans (m.mono aX.z)⟩
 have bE:=Y4 R;clear J T d aq d6 V m R y HF aC ax ah ai t N aj az aD;go_wp2_with (rw [bE.z])
 go_ret2;exact HQ.z
