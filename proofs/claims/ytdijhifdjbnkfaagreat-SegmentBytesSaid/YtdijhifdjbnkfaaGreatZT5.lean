import Derived.Test.YtdijhifdjbnkfaaGreatZT3
import Derived.Test.YtdijhifdjbnkfaaGreatZT4
set_option maxRecDepth 100000
set_option maxHeartbeats 0
set_option linter.unusedVariables false
set_option linter.unusedSimpArgs false
namespace Go.Proofs.YtdijhifdjbnkfaaGreat
open Lib (hid)
open Tryz
namespace EV
open RowKit MM EM
variable {S:Nat->Prop} {w:World} {cs:List Value}
def Z8:Codec Fld:=ZeJ Zij Zij
def evC:Codec Ev:=ZeJ Zbw (Zfu Z8)
theorem Zgd {f:Fld}:Z8.on S w cs f↔cs=[.string ⟨f.1.toArray⟩,.string ⟨f.2.toArray⟩]:=by
 constructor
 ·rintro ⟨x,y,rfl,a,b⟩;have a:x=[.string ⟨f.1.toArray⟩]:=a;have b:y=[.string ⟨f.2.toArray⟩]:=b;rw [a,b];rfl
 ·rintro rfl;exact ⟨[_],[_],rfl,rfl,rfl⟩
theorem ZBS {e:Ev}:evC.on S w cs e↔∃v,cs=[.int .i64 e.1,v]/\ZD Z8 S w v e.2:=by
 constructor
 ·rintro ⟨x,y,rfl,b,v,c,a⟩;have b:x=[.int .i64 e.1]:=b;exact ⟨v,by rw [b,c];rfl,a⟩
 ·rintro ⟨v,rfl,a⟩;exact ⟨[_],[v],rfl,rfl,v,rfl,a⟩
theorem ZeR {p:Option Addr} {n d:Nat} {fs:List Fld} (h:ZD Z8 S w (.slice p n d) fs) {k:Nat} (g:k<fs.length) :
  ∃b off,p=some ⟨b,off,none⟩/\b<w.heap.size/\S b/\w.cell? ⟨b,off+k*2,none⟩=some (.string ⟨fs[k].1.toArray⟩)/\w.cell? ⟨b,off+k*2+1,none⟩=some (.string ⟨fs[k].2.toArray⟩):=by
 obtain ⟨b,off,vs,i,c,f,a,e⟩:=h.at_ g;rw [Zgd] at a;subst a;exact ⟨b,off,i,c,f,e 0 _ rfl,e 1 _ rfl⟩
theorem Zd7 (l:Xu):(⟨l.toArray⟩:ByteArray).data.toList=l:=by simp
theorem Zbh (l:Xu):(⟨l.toArray⟩:ByteArray).size=l.length:=by rw [Lib.size_eq]
theorem ZhR (w:World) (x y:Value) (t:TypeId):(w.alloc (.cells #[x,y] t)).cell? ⟨w.heap.size,0,none⟩=some x/\(w.alloc (.cells #[x,y] t)).cell? ⟨w.heap.size,1,none⟩=some y:=by
 have b:=ZdD w [x,y] t 0 x rfl;have a:=ZdD w [x,y] t 1 y rfl;rw [ZY] at b a;exact ⟨b,a⟩
variable {S:Nat->Prop} {w:World}
abbrev Zo:=Int×Ev
def ZA:Codec Zo:=ZeJ Zbw evC
theorem Zch {c:List Value} {d:Zo}:ZA.on S w c d↔∃v,c=[.int .i64 d.1,.int .i64 d.2.1,v]/\ZD Z8 S w v d.2.2:=by
 constructor
 ·rintro ⟨x,y,rfl,b,e⟩;have b:x=[.int .i64 d.1]:=b;obtain ⟨v,f,a⟩:=ZBS.1 e;exact ⟨v,by rw [b,f];rfl,a⟩
 ·rintro ⟨v,rfl,a⟩;exact ⟨[_],[_,_],rfl,rfl,ZBS.2 ⟨v,rfl,a⟩⟩
theorem ZuH:Elem Z8 prog 55 123 32:=⟨underlying55,by
 have h:(prog.info? 123).map (fun i=>(i.zero,i.size,i.bytes))=some (some (.agg #[.string ⟨#[]⟩,.string ⟨#[]⟩]),2,32):=by kernel_rfl
 obtain ⟨i,b,c,a,d⟩:=info_parts h;exact ⟨i,_,b,c,a,d,rfl⟩⟩
theorem Ztq {S':Nat->Prop} {v:Value} {fs:List Fld} (h:ZD Z8 S w v fs):Zdk Z8 S' w v fs:=by
 obtain ⟨p,c,a,f,j,g,d,e⟩:=ZD.src h;exact ⟨p,c,a,f,j,g,⟨d.1,fun i hi b=>Zgd.2 (Zgd.1 (d.2 i hi b))⟩,e⟩
theorem Zim:Elem ZA prog 22 59 40:=⟨underlying22,by
 have h:(prog.info? 59).map (fun i=>(i.zero,i.size,i.bytes))=some (some (.agg #[.int .i64 0,.int .i64 0,.slice none 0 0]),3,40):=by kernel_rfl
 obtain ⟨i,b,c,a,d⟩:=info_parts h;exact ⟨i,_,b,c,a,d,rfl⟩⟩
theorem Zad {p:Option Addr} {n f:Nat} {c:List Zo} (h:ZD ZA S w (.slice p n f) c) {k:Nat} (j:k<c.length) :
  ∃b off v,p=some ⟨b,off,none⟩/\b<w.heap.size/\S b/\w.cell? ⟨b,off+k*3,none⟩=some (.int .i64 c[k].1)/\w.cell? ⟨b,off+k*3+1,none⟩=some (.int .i64 c[k].2.1)/\w.cell? ⟨b,off+k*3+2,none⟩=some v/\ZD Z8 S w v c[k].2.2:=by
 obtain ⟨b,off,vs,l,e,i,a,d⟩:=h.at_ j;rw [Zch] at a;obtain ⟨v,rfl,g⟩:=a;exact ⟨b,off,v,l,e,i,d 0 _ rfl,d 1 _ rfl,d 2 _ rfl,g⟩
end EV
namespace RM
open TK (Z6 Zam ZhY)
open EM (Fld Ev Tr Trm ZG ZaL Zdd Z5 Zcs Zm7 Zh9 ZoJ Zac Zaj ZC ZaW Zen Zi0 Zs ZbX ZeX ZL Zae Zgt Zhj ZdO ZaR Zj ZbF ZiT ZfA)
open PM (Zm Za2 ZcM isL Zee okL okP Zpe)
theorem ZdK {e:Ev} (h:ZG e=0):Z5 e=Zcs e.2:=by unfold Z5;rw [Xa (by simpa using h)]
theorem ZcY {e:Ev} (h:ZG e≠0):Z5 e=[]:=by unfold Z5;rw [Xe h]
theorem Znp (e:Ev):Zac (Z5 e):=by
 by_cases h:ZG e=0
 ·rw [ZdK h];exact Zh9 _
 ·rw [ZcY h];simp [Zac]
theorem Zkj (e:Ev):∀t∈Z5 e,t.2≠[]:=by
 by_cases h:ZG e=0
 ·rw [ZdK h];exact ZoJ _
 ·rw [ZcY h];simp
theorem ZdG {α:Type}:∀{l:List (Tr α)} {t:Tr α},Zac l->t∈l->Zs l t.1=t.2
 | u::r,t,h,a=>by
   unfold Zac at h;rw [Xax] at h;rw [Zs];rcases XS.1 a with rfl|a
   ·rw [Xe rfl]
   ·rw [Xa (ZbF (h.1 t a))];exact ZdG h.2 a
theorem ZjZ {α:Type}:∀(qs:List (Xu×α)) {l:List (Tr α)} {t:Tr α},t∈ZC l qs->(∃u∈l,u.1=t.1)\/∃q∈qs,q.1=t.1
 | [],l,t,h=>.inl ⟨t,h,rfl⟩
 | q::qs,l,t,h=>by
   rcases ZjZ qs (l:=Zaj l q.1 q.2) h with ⟨u,d,e⟩|⟨p,c,e⟩
   ·rcases ZiT d with a|⟨v,b,a⟩
    ·exact .inr ⟨q,by simp,by rw [<- e,a]⟩
    ·exact .inl ⟨v,b,by rw [<- e,a]⟩
   ·exact .inr ⟨p,by simp [c],e⟩
theorem ZmG:∀{fs:List Fld} {base:Int} {q:Xu×Int},q∈ZL base fs->∃f∈fs,∃x∈Z6 f.2,q.1=f.1++58::x
 | f::r,base,q,h=>by
   rw [ZL,Xak] at h;rcases h with h|h
   ·unfold Zae at h;obtain ⟨p,b,rfl⟩:=XY.1 h;exact ⟨f,by simp,p.1,(List.mem_zipIdx b).2.2▸XH _,rfl⟩
   ·obtain ⟨g,a,h⟩:=ZmG h;exact ⟨g,by simp [a],h⟩
theorem Zm6 {e:Ev} {t:Trm} (h:t∈Z5 e):1<=t.1.length/\t.1.length<=65:=by
 by_cases a:ZG e=0
 ·rw [ZdK a] at h;rcases ZjZ _ h with ⟨u,i,_⟩|⟨q,c,b⟩
  ·simp at i
  ·obtain ⟨f,j,x,g,d⟩:=ZmG c;have h1:=Zdd ((ZaL.1 a).2 f j).1;have h2:=(ZhY f.2 x g).2;rw [<- b,d];simp only [Xd,Xh];omega
 ·rw [ZcY a] at h;simp at h
theorem Zjk:∀(fs:List Fld) (base:Int),∀v∈(ZL base fs).map (·.2),v<base+ZaR fs
 | [],base,v,h=>by simp [ZL] at h
 | f::r,base,v,h=>by
   have e:ZaR (f::r)=((Z6 f.2).length:Int)+64+ZaR r:=by simp [ZaR]
   have hp:0<=ZaR r:=by
    clear h e
    induction r with
    | nil=>simp [ZaR]
    | cons g r ih=>have:ZaR (g::r)=((Z6 g.2).length:Int)+64+ZaR r:=by simp [ZaR]
                   omega
   rw [ZL,XN,Xak,Zgt] at h;rcases h with h|h
   ·obtain ⟨k,a,rfl⟩:=XY.1 h;have:=List.mem_range.1 a;omega
   ·have:=Zjk r _ v h;omega
theorem ZpG:∀{fs:List Fld},(∀f∈fs,f.2.length<=4096)->ZaR fs<=4160*(fs.length:Int)
 | [],_=>by simp [ZaR]
 | f::r,h=>by
   have e:ZaR (f::r)=((Z6 f.2).length:Int)+64+ZaR r:=by simp [ZaR]
   have h1:=Zam f.2;have h2:=h f (by simp);have h3:=ZpG (fs:=r) fun g a=>h g (by simp [a]);rw [e,Xh];omega
theorem Zq5 {b:Int}:∀{c:List Int} {a:Int},(∀z∈c,a<z/\z<b)->c.Pairwise (·<·)->Za2 b a c=true
 | [],a,_,_=>rfl
 | z::c,a,h,hp=>by
   rw [Xax] at hp;have e:=h z (by simp);rw [Za2,Xy,Xy,Xg,Xg];exact ⟨e,Zq5 (fun y d=>⟨hp.1 y d,(h y (by simp [d])).2⟩) hp.2⟩
theorem Zri (e:Ev) (x:Xu):ZcM 1048576 (Zs (Z5 e) x)=true:=by
 by_cases b:ZG e=0
 ·obtain ⟨h1,d⟩:=ZaL.1 b;rw [ZdK b,Zm7];have a:(((ZL 0 e.2).filter (fun q=>q.1=x)).map (·.2)).Sublist ((ZL 0 e.2).map (·.2)):=List.filter_sublist.map _;refine Zq5 (fun z g => ?_) ((Zhj e.2 0).sublist a);have c:=a.subset g;have b1:=ZdO e.2 0 z c;have b2:=Zjk e.2 0 z c;have b3:=ZpG fun f h=>(d f h).2;omega
 ·rw [ZcY b];rfl
def Zai:Int->List (List Trm)->List (Xu×Zm)
 | _,[]=>[]
 | i,ts::r=>ts.map (fun t=>(t.1,(i,t.2)))++Zai (i+1) r
theorem ZcK:∀(a b:List (List Trm)) (i:Int),Zai i (a++b)=Zai i a++Zai (i+(a.length:Int)) b
 | [],b,i=>by simp [Zai]
 | t::a,b,i=>by
   rw [XJ,Zai,Zai,ZcK a b,Xl,Xh];congr 3
   omega
theorem Zhk {tss:List (List Trm)} {k:Nat} (a:k<tss.length):Zai 0 (tss.take (k+1))=Zai 0 (tss.take k)++tss[k].map (fun t=>(t.1,((k:Int),t.2))):=by
 rw [XG a,ZcK,Zai,Zai,XI,Xi,Xao (Xam a),Int.zero_add]
def Zjw (tss:List (List Trm)):List (Tr Zm):=ZC [] (Zai 0 tss)
theorem Zpo (tss:List (List Trm)):Zac (Zjw tss):=Zen _ (by simp [Zac])
theorem ZmW (tss:List (List Trm)):∀t∈Zjw tss,t.2≠[]:=Zi0 _ (by simp)
theorem ZmH:∀{tss:List (List Trm)} {i:Int} {q:Xu×Zm},q∈Zai i tss->∃a∈tss,∃t∈a,q.1=t.1
 | a::r,i,q,h=>by
   rw [Zai,Xak] at h;rcases h with h|h
   ·obtain ⟨t,c,rfl⟩:=XY.1 h;exact ⟨a,by simp,t,c,rfl⟩
   ·obtain ⟨b,d,h⟩:=ZmH h;exact ⟨b,by simp [d],h⟩
theorem ZvF {tss:List (List Trm)} {r:Tr Zm} (h:r∈Zjw tss):∃a∈tss,∃t∈a,r.1=t.1:=by
 rcases ZjZ _ h with ⟨u,d,_⟩|⟨q,b,e⟩
 ·simp at d
 ·obtain ⟨a,c,t,g,f⟩:=ZmH b;exact ⟨a,c,t,g,by rw [<- e,f]⟩
def Zhm:Int->List (List Trm)->Xu->List Zm
 | _,[],_=>[]
 | i,ts::r,x=>(if Zs ts x=[] then [] else [(i,Zs ts x)])++Zhm (i+1) r x
theorem filter_one:∀{a:List Trm} (i:Int) (x:Xu),Zac a->(∀t∈a,t.2≠[]) ->
  ((a.map fun t=>(t.1,((i,t.2):Zm))).filter (fun q=>q.1=x)).map (·.2)=if Zs a x=[] then [] else [(i,Zs a x)]
 | [],i,x,_,_=>by simp [Zs]
 | t::r,i,x,h,hn=>by
   unfold Zac at h;rw [Xax] at h;have ih:=filter_one i x h.2 fun u b=>hn u (by simp [b]);rw [XF,Zs]
   by_cases e:t.1=x
   ·subst e;have d:Zs r t.1=[]:=ZbX fun u b c=>ZbF (h.1 u b) c.symm;rw [Xe rfl,Xa (hn t (by simp)),List.filter_cons_of_pos (by simp),XF,ih,d];simp
   ·rw [Xa e,List.filter_cons_of_neg (by simpa using e),ih]
theorem Zjl:∀{tss:List (List Trm)} (i:Int) (x:Xu),(∀a∈tss,Zac a/\∀t∈a,t.2≠[])->((Zai i tss).filter (fun q=>q.1=x)).map (·.2)=Zhm i tss x
 | [],i,x,_=>rfl
 | a::r,i,x,h=>by
   rw [Zai,List.filter_append,XN,Zhm,filter_one i x (h a (by simp)).1 (h a (by simp)).2,Zjl (i+1) x fun b c=>h b (by simp [c])]
theorem Zq8 {tss:List (List Trm)} (h:∀a∈tss,Zac a/\∀t∈a,t.2≠[]) (x:Xu):Zs (Zjw tss) x=Zhm 0 tss x:=by
 unfold Zjw;rw [ZeX _ _ (by simp [Zac]),Zjl 0 x h];rfl
theorem Zyn {ps:List Zm} {n m:Int} (h:okL n ps) (hm:m<=n):okL m ps:=by
 cases ps with
 | nil=>trivial
 | cons p ps =>
   rw [okL] at h ⊢;unfold okP at h ⊢;exact ⟨⟨by omega,h.1.2⟩,h.2⟩
theorem Zom:∀{tss:List (List Trm)} {n:Int} {x:Xu},(∀b∈tss,ZcM 1048576 (Zs b x)=true)->n+(tss.length:Int)<=65536->okL n (Zhm n tss x)
 | [],n,x,_,_=>trivial
 | b::r,n,x,h,hn=>by
   rw [Xh] at hn;have ih:=Zom (tss:=r) (n:=n+1) (x:=x) (fun c d=>h c (by simp [d])) (by omega);rw [Zhm]
   split
   ·rw [Xz];exact Zyn ih (by omega)
   ·rename_i a;rw [Xa8,okL];refine ⟨⟨by omega,?_,a,h b (by simp)⟩,ih⟩
    show n<65536
    omega
theorem Zvo (es:List Ev) (x:Xu) (h:es.length<=65536):isL (Zhm 0 (es.map Z5) x)=true:=by
 rw [Zee];refine Zom (fun ts a => ?_) (by rw [XE];omega);obtain ⟨e,_,rfl⟩:=XY.1 a;exact Zri e x
theorem ZvT (es:List Ev):∀a∈es.map Z5,Zac a/\∀t∈a,t.2≠[]:=fun a b=>by
 obtain ⟨e,_,rfl⟩:=XY.1 b;exact ⟨Znp e,Zkj e⟩
def Zh6 (es:List Ev):List (Tr Zm):=Zjw (es.map Z5)
theorem Zgz (es:List Ev):Zac (Zh6 es):=Zpo _
theorem ZkS (es:List Ev) (x:Xu):Zs (Zh6 es) x=Zhm 0 (es.map Z5) x:=Zq8 (ZvT es) x
theorem Zkf {es:List Ev} (h:es.length<=65536) {r:Tr Zm} (a:r∈Zh6 es):isL r.2=true/\r.2≠[]:=by
 have e:=ZdG (Zgz es) a;rw [ZkS] at e;exact ⟨by rw [<- e];exact Zvo es r.1 h,ZmW _ r a⟩
theorem ZeA {es:List Ev} {r:Tr Zm} (b:r∈Zh6 es):1<=r.1.length/\r.1.length<=65:=by
 obtain ⟨ts,a,t,c,e⟩:=ZvF b;obtain ⟨ev,_,rfl⟩:=XY.1 a;rw [e];exact Zm6 c
theorem Zfm {es:List Ev} (h:es.length<=65536) {r:Tr Zm} (a:r∈Zh6 es):r.2.length<=65536:=Zpe _ ((Zee _).1 (Zkf h a).1)
end RM
namespace GM
open VM
open EM (Ev Tr Trm Zid Zac Zs Z5 Zj)
open PM (Zm isL)
open DM (ZQ okX Zfe Zb7 Zf2 Zds ZmU ZbJ)
open SM (Zo isS encS Zek ZgY Zcv ZaH ZaK Zbx)
open RM (Zh6 Zgz Zkf ZeA Zfm ZkS)
open FM (Zah Zw Zau ZaP ZfQ ZhN)
open BM (ZcQ ZpC ZfS Zjd ZeZ Zd4 Zk3 ZlD ZlF)
variable {k:Nat} {b:Xu}
def evs (l:List Zo):List Ev:=l.map (·.2)
def Zt (l:List Zo):List (Tr Zm):=Zh6 (evs l)
def Z0:Int->List Zo->Xu
 | _,[]=>[]
 | a,d::r=>ZaY (IntKind.i64.wrap (d.2.1 - a))++Z0 d.2.1 r
def ZcI:Int->List Zo->Int
 | a,[]=>a
 | _,d::r=>ZcI d.2.1 r
theorem Zia:∀(a b:List Zo) (z:Int),Z0 z (a++b)=Z0 z a++Z0 (ZcI z a) b
 | [],b,z=>rfl
 | d::a,b,z=>by rw [XJ,Z0,Z0,Zia a b,ZcI,Xl]
theorem Ziv:∀(a:List Zo) (d:Zo) (z:Int),ZcI z (a++[d])=d.2.1
 | [],d,z=>rfl
 | x::a,d,z=>by rw [XJ,ZcI,Ziv a d]
theorem Zhw {l:List Zo} (a:k<l.length) (z:Int):Z0 z (l.take (k+1))=Z0 z (l.take k)++ZaY (IntKind.i64.wrap (l[k].2.1 - ZcI z (l.take k))):=by
 rw [XG a,Zia,Z0,Z0,XI]
theorem Zgn {l:List Zo} (a:k<l.length) (z:Int):ZcI z (l.take (k+1))=l[k].2.1:=by
 rw [XG a,Ziv]
def Zn (rows:List (Tr Zm)):Xu:=rows.flatMap fun r=>PM.ZV r.2
theorem Zfg {rows:List (Tr Zm)} (a:k<rows.length):Zn (rows.take (k+1))=Zn (rows.take k)++PM.ZV rows[k].2:=by
 unfold Zn;rw [XG a,XaR];simp
theorem Zfh (rows:List (Tr Zm)) (k:Nat):(Zn (rows.take k)).length<=(Zn rows).length:=by
 have:Zn rows=Zn (rows.take k)++Zn (rows.drop k):=by
  unfold Zn;rw [<- XaR,X6]
 rw [this,Xd];omega
def Z9:Int->List (Tr Zm)->List ZQ
 | _,[]=>[]
 | off,r::l=>(r.1,(off,(((PM.ZV r.2).length:Int),(r.2.length:Int))))::Z9 (off+((PM.ZV r.2).length:Int)) l
theorem ZiY:∀(a b:List (Tr Zm)) (off:Int),Z9 off (a++b)=Z9 off a++Z9 (off+((Zn a).length:Int)) b
 | [],b,off=>by simp [Z9,Zn]
 | r::a,b,off=>by
   have e:Zn (r::a)=PM.ZV r.2++Zn a:=by simp [Zn]
   rw [XJ,Z9,Z9,ZiY a b,e,Xd,XJ];congr 3
   omega
theorem Zga {rows:List (Tr Zm)} (a:k<rows.length):Z9 0 (rows.take (k+1))=Z9 0 (rows.take k)++[(rows[k].1,(((Zn (rows.take k)).length:Int),(((PM.ZV rows[k].2).length:Int),(rows[k].2.length:Int))))]:=by
 rw [XG a,ZiY,Z9,Z9,Int.zero_add]
theorem Zb2:∀(rows:List (Tr Zm)) (off:Int),(Z9 off rows).length=rows.length
 | [],_=>rfl
 | r::rows,off=>by rw [Z9,Xh,Xh,Zb2 rows]
theorem Zkz:∀(rows:List (Tr Zm)) (off:Int),(Z9 off rows).map (·.1)=rows.map (·.1)
 | [],_=>rfl
 | r::rows,off=>by rw [Z9,XF,XF,Zkz rows]
theorem ZnR:∀{rows:List (Tr Zm)} {off:Int} {p:Option Xu},Zac rows->(∀r∈rows,1<=r.1.length/\r.1.length<=65/\r.2.length<=65536)->(∀q,p=some q->∀r∈rows,Zj q r.1=true)->0<=off ->
  off+((Zn rows).length:Int)<=67108864->Zf2 p (Z9 off rows)=true
 | [],off,p,_,_,_,_,_=>by cases p<;>rfl
 | r::rows,off,p,h,h2,h3,h4,h5=>by
   unfold Zac at h;rw [Xax] at h;have e:Zn (r::rows)=PM.ZV r.2++Zn rows:=by simp [Zn]
   rw [e,Xd] at h5;have c:=h2 r (by simp);rw [Z9,Zds,Xy,Xy];refine ⟨⟨Zfe.2 ⟨⟨c.1,c.2.1⟩,⟨h4,?_⟩,⟨?_,?_⟩,?_,?_⟩,?_⟩,ZnR (off:=off+((PM.ZV r.2).length:Int)) h.2 (fun u a=>h2 u (by simp [a])) (fun q d u a => ?_) (by omega) (by omega)⟩
   ·show off<=67108864
    omega
   ·show (0:Int)<=((PM.ZV r.2).length:Int)
    omega
   ·show ((PM.ZV r.2).length:Int)<=67108864
    omega
   ·show (0:Int)<=(r.2.length:Int)
    omega
   ·show (r.2.length:Int)<=67108864
    omega
   ·cases p with
    | none=>rfl
    | some q=>exact h3 q rfl r (by simp)
   ·obtain rfl:=XP d;exact h.1 u a
def Zak (rows:List (Tr Zm)):Xu:=(ZcQ (ZfS rows.length) (rows.map (·.1))).1
theorem Zg1 (rows:List (Tr Zm)):(Zak rows).length=ZeZ rows.length:=by
 unfold Zak;rw [ZpC,Zjd]
abbrev ZiN:=Int×Int×Int×Int×Nat
def ZgH (p:ZiN) (d:Zo):ZiN:=if p.2.2.2.2=0 then (d.2.1,d.2.1,d.1,d.1,1) else (min p.1 d.2.1,max p.2.1 d.2.1,p.2.2.1,d.1,p.2.2.2.2+1)
def Zp (l:List Zo):ZiN:=l.foldl ZgH (0,0,0,0,0)
theorem Zir {l:List Zo} (a:k<l.length):Zp (l.take (k+1))=ZgH (Zp (l.take k)) l[k]:=by
 unfold Zp;rw [XG a,XaZ];rfl
theorem Zg3 (l:List Zo):∀{k:Nat},k<=l.length->(Zp (l.take k)).2.2.2.2=k
 | 0,_=>rfl
 | k+1,hk=>by
   rw [Zir (by omega),ZgH];have ih:=Zg3 l (k:=k) (by omega)
   split
   ·rename_i h0
    show 1=k+1
    omega
   ·show (Zp (l.take k)).2.2.2.2+1=k+1
    omega
def Zdp (p:ZiN):Xu:=ZaY p.1++(ZaY p.2.1++(ZaY p.2.2.1++(ZaY p.2.2.2.1++ZaY (p.2.2.2.2:Int))))
def Zax (l:List Zo):List Xu:=[SM.encS l,Z0 0 l,Zn (Zt l),ZbJ (Z9 0 (Zt l)),Zak (Zt l),Zdp (Zp l)]
def Zbg (l:List Zo):Xu:=[76,83,69,71]++Zw (Zax l)
def Zma (l:List Zo):Bool:=(Zax l).all fun s=>decide (s.length<=16777216)
def Zdw (l:List Zo):Xu×Int :=
 if isS l=false\/l=[] then ([],130) else if 262144<(Zt l).length\/16777216<(Zn (Zt l)).length\/Zma l=false then ([],2) else (Zbg l,0)
theorem ZeL (l:List Zo):Zdw l=([],130)\/Zdw l=([],2)\/Zdw l=(Zbg l,0):=by
 unfold Zdw
 split
 ·exact .inl rfl
 ·split
  ·exact .inr (.inl rfl)
  ·exact .inr (.inr rfl)
theorem Ze9 {l:List Zo} (h:Zdw l=(b,0)):isS l=true/\l≠[]/\(Zt l).length<=262144/\(Zn (Zt l)).length<=16777216/\Zma l=true/\b=Zbg l:=by
 unfold Zdw at h
 split at h
 ·simp at h
 ·rename_i a
  split at h
  ·simp at h
  ·rename_i c;have d:=Xp Prod.fst h;simp only [not_or] at a c;exact ⟨by simpa using a.1,a.2,by omega,by omega,by simpa using c.2.2,d.symm⟩
theorem ZrX {l:List Zo} (h:Zdw l=(b,0)) (r:Xu):ZaP ((b++r).drop 4)=(SM.encS l,(Zah (SM.encS l)).length,0):=by
 obtain ⟨_,_,_,_,a,rfl⟩:=Ze9 h
 have c:(SM.encS l).length<=16777216:=by
  unfold Zma Zax at a;simp only [List.all_cons,Xy,Xg] at a;exact a.1
 have e:(Zbg l++r).drop 4=Zah (SM.encS l)++(Zw (Zax l).tail++r):=by
  unfold Zbg Zax;rw [Zau];simp only [Xl,List.tail_cons];rfl
 rw [e,ZfQ c]
def ZcD (b:Xu):Option (List Zo) :=
 if b.length<4 then none
 else if (ZaP (b.drop 4)).2.2≠0 then none
 else match Zek (ZaP (b.drop 4)).1 with
  | none=>none
  | some l=>if Zdw l=(b,0) then some l else none
theorem Zp4 {l:List Zo} (d:ZaH l) (h:Zdw l=(b,0)):ZcD b=some l:=by
 have a:=ZrX h [];rw [XI] at a;obtain ⟨f,_,_,_,_,e⟩:=Ze9 h;have c:¬b.length<4:=by rw [e];unfold Zbg;simp
 unfold ZcD;rw [Xa c,a];dsimp only;rw [Xa (by simp),ZgY f d];dsimp only;rw [Xe h]
theorem ZhL {l:List Zo} (h:ZcD b=some l):Zdw l=(b,0)/\ZaH l:=by
 unfold ZcD at h
 split at h
 ·cases h
 ·split at h
  ·cases h
  ·split at h
   ·cases h
   ·rename_i m a
    split at h
    ·rename_i c;obtain rfl:=XP h;exact ⟨c,(Zcv a).2.1⟩
    ·cases h
theorem Zw1 {l:List Zo}:ZcD b=some l↔Zdw l=(b,0)/\ZaH l:=⟨ZhL,fun ⟨a,c⟩=>Zp4 c a⟩
theorem Zxm {l:List Zo} (h:isS l=true) (a:(Zt l).length<=262144) (hp:(Zn (Zt l)).length<=16777216):Zb7 (Z9 0 (Zt l))=true:=by
 have c:(evs l).length<=65536:=by unfold evs;rw [XE];exact (Zbx.1 h).1
 unfold Zb7;rw [Zb2,Xy,Xg];refine ⟨a,ZnR (Zgz _) (fun r a => ?_) (fun q d=>by cases d) (by omega) (by omega)⟩;exact ⟨(ZeA a).1,(ZeA a).2,Zfm c a⟩
theorem Zq9 {l:List Zo} (h:isS l=true):∀r∈Zt l,isL r.2=true/\r.2≠[]:=fun r a=>Zkf (by unfold evs;rw [XE];exact (Zbx.1 h).1) a
open TK (Z6 Zam)
open EM (Ev Tr Trm Fld Zac Zs Z5 Zcs Zag ZC Zge ZmL ZfD Zao ZK ZZ Zaj ZdU ZG)
open DM (ZQ ZbJ Zb7)
open SM (Zo isS encS ZO Zco Zcp Zk4 Zff Zbx Zhc Zl4)
open RM (Zh6 Zjw Zai ZcK ZdK ZcY Zkj ZeA Zfm)
open BM (ZeZ Zd4)
def ZcE (l:List Zo):Nat:=(l.map fun d=>Zao d.2.2).sum
theorem Zki {l:List Zo} {k:Nat} (a:k<l.length):ZcE (l.take (k+1))=ZcE (l.take k)+Zao l[k].2.2:=by
 unfold ZcE;rw [List.take_succ_eq_append_getElem a,List.map_append,List.sum_append];simp
theorem ZoG (l:List Zo) (k:Nat):ZcE (l.take k)<=ZcE l:=by
 have:ZcE l=ZcE (l.take k)+ZcE (l.drop k):=by
  unfold ZcE;rw [<- List.sum_append,<- List.map_append,List.take_append_drop]
 omega
theorem ZiI (f:Fld) (r:List Fld):Zao (f::r)=f.1.length+f.2.length+Zao r:=by simp [Zao]
theorem ZnE:∀fs:List Fld,Zao fs<=(ZK fs).length
 | []=>by simp [Zao]
 | f::r=>by
   have:=ZnE r;rw [ZdU,ZiI];unfold Z1;simp only [List.length_append];omega
theorem Zud (e:Ev):Zao e.2<=(ZZ e).length:=by
 have:=ZnE e.2;unfold ZZ;simp only [List.length_append];omega
theorem Zoq (l:List Zo):∀k,k<=l.length->ZcE (l.take k)<=(ZO l 0 k).length
 | 0,_=>by simp [ZcE]
 | k+1,hk=>by
   have ih:=Zoq l k (by omega);have h1:=Zud l[k].2;rw [Zco (Nat.zero_le _),Zki (by omega),List.length_append,Zff (by omega),List.length_append];omega
theorem Zzh (l:List Zo):ZcE l<=(SM.encS l).length:=by
 have:=Zoq l l.length (Nat.le_refl _);rw [List.take_length] at this;unfold SM.encS;simp only [List.length_append];omega
theorem ZoP:∀fs:List Fld,ZfD fs<=Zao fs
 | []=>by simp [ZfD]
 | f::r=>by
   have h1:=ZoP r;have h2:=Zam f.2;have e:ZfD (f::r)=(Z6 f.2).length+ZfD r:=by simp [ZfD]
   rw [e,ZiI];omega
theorem places_cons {α:Type} (t:Tr α) (T:List (Tr α)):(Zag (t::T)).length=t.2.length+(Zag T).length:=by simp [Zag]
theorem Zmw {α:Type}:∀{T:List (Tr α)},(∀t∈T,t.2≠[])->T.length<=(Zag T).length
 | [],_=>by simp
 | t::T,h=>by
   have h1:=Zmw (T:=T) fun u a=>h u (by simp [a]);have h2:=List.length_pos_iff.2 (h t (by simp));rw [places_cons,List.length_cons];omega
theorem Zno (e:Ev):(Zag (Z5 e)).length<=ZfD e.2:=by
 by_cases h:ZG e=0
 ·rw [ZdK h,ZmL];exact Nat.le_refl _
 ·rw [ZcY h];simp [Zag]
def ZlX (p:Zm):Nat:=50+10*p.2.length
def Zb9 (ps:List Zm):Nat:=(ps.map ZlX).sum
theorem Zf8 (p:Zm) (ps:List Zm):Zb9 (p::ps)=ZlX p+Zb9 ps:=by simp [Zb9]
theorem ZiW (a b:List Zm):Zb9 (a++b)=Zb9 a+Zb9 b:=by simp [Zb9]
theorem ZrU {a b:List Zm} (h:a.Perm b):Zb9 a=Zb9 b:=(h.map ZlX).sum_nat
theorem ZnI (i:Int):∀(T:List Trm),(∀t∈T,t.2≠[])->Zb9 ((T.map (fun t=>((t.1,(i,t.2)):Xu×Zm))).map (·.2))<=60*(Zag T).length
 | [],_=>by simp [Zb9]
 | t::T,h=>by
   have h1:=ZnI i T fun u a=>h u (by simp [a]);have h2:=List.length_pos_iff.2 (h t (by simp));rw [List.map_cons,List.map_cons,Zf8,places_cons];have e:ZlX (i,t.2)=50+10*t.2.length:=rfl;rw [e];omega
theorem Zhl:∀(es:List Ev) (i:Int),Zb9 ((Zai i (es.map Z5)).map (·.2))<=60*(es.map fun e=>Zao e.2).sum
 | [],i=>by simp [Zai,Zb9]
 | e::es,i=>by
   have h1:=Zhl es (i+1);have h2:=ZnI i (Z5 e) (Zkj e);have h3:=Zno e;have h4:=ZoP e.2;rw [List.map_cons,Zai,List.map_append,ZiW,List.map_cons,List.sum_cons];omega
theorem Zuj (ps:List Zm):50*ps.length<=Zb9 ps:=by
 induction ps with
 | nil=>simp [Zb9]
 | cons p ps ih=>rw [Zf8,List.length_cons];unfold ZlX;omega
theorem Zsw (es:List Ev):(Zai 0 (es.map Z5)).length<=2*(es.map fun e=>Zao e.2).sum:=by
 have h1:=Zhl es 0;have a:=Zuj ((Zai 0 (es.map Z5)).map (·.2));rw [List.length_map] at a;omega
theorem ZkM {rows:List (Tr Zm)}:(rows.map fun r=>Zb9 r.2).sum=Zb9 (Zag rows):=by
 induction rows with
 | nil=>rfl
 | cons r rows ih =>
   have e:Zag (r::rows)=r.2++Zag rows:=by simp [Zag]
   rw [List.map_cons,List.sum_cons,ih,e,ZiW]
theorem ZiK:∀ps:List Zm,40*ps.length+10*PM.ZaU ps+10*ps.length=Zb9 ps
 | []=>by simp [PM.ZaU,Zb9]
 | p::ps=>by
   have ih:=ZiK ps;rw [PM.ZaU,Zf8,List.length_cons];unfold ZlX;omega
theorem ZrY {ps:List Zm} (h:ps≠[]):(PM.ZV ps).length<=Zb9 ps:=by
 have h0:=List.length_pos_iff.2 h;have h1:=PM.Zes ps 0;have h2:=PM.ZdB ps (PM.cnt ps.length) 0;have h3:=(Zc ps.length).2;have h4:=ZiK ps;have h5:PM.cnt ps.length<=ps.length:=by unfold PM.cnt;omega
 unfold PM.ZV;simp only [List.length_append];omega
theorem Zjm:∀{rows:List (Tr Zm)},(∀r∈rows,r.2≠[])->(Zn rows).length<=(rows.map fun r=>Zb9 r.2).sum
 | [],_=>by simp [Zn]
 | r::rows,h=>by
   have h1:=Zjm (rows:=rows) fun u a=>h u (by simp [a]);have h2:=ZrY (h r (by simp));have e:Zn (r::rows)=PM.ZV r.2++Zn rows:=by simp [Zn]
   rw [e,List.length_append,List.map_cons,List.sum_cons];omega
theorem ZiG (l:List Zo):Zb9 (Zag (Zt l))<=60*ZcE l:=by
 have b:(Zag (Zt l)).Perm (Zag []++(Zai 0 ((evs l).map Z5)).map (·.2)):=Zge _ [];rw [ZrU b];have a:=Zhl (evs l) 0;have e:((evs l).map fun e=>Zao e.2).sum=ZcE l:=by unfold evs ZcE;rw [List.map_map];rfl
 rw [e] at a;simpa [Zag] using a
theorem ZsJ (l:List Zo):(Zn (Zt l)).length<=60*ZcE l:=by
 have a:=Zjm (rows:=Zt l) (RM.ZmW _);rw [ZkM] at a;exact Nat.le_trans a (ZiG l)
theorem ZlY:∀{ps:List Zm},(∀p∈ps,p.2≠[])->60*ps.length<=Zb9 ps
 | [],_=>by simp
 | p::ps,h=>by
   have h1:=ZlY (ps:=ps) fun q a=>h q (by simp [a]);have h2:=List.length_pos_iff.2 (h p (by simp));rw [Zf8,List.length_cons];unfold ZlX;omega
theorem ZsI {l:List Zo} (h:isS l=true):(Zt l).length<=ZcE l:=by
 have h1:=Zmw (T:=Zt l) (RM.ZmW _)
 have h2:=ZlY (ps:=Zag (Zt l)) fun p a=>by
  obtain ⟨r,b,a⟩:=List.mem_flatMap.1 a;exact (((PM.Zo7 _).1 (Zq9 h r b).1).2 p a).1
 have h3:=ZiG l;omega
theorem Zmz:∀{l:List Nat} {x:Nat},x∈l->x<=l.sum
 | y::l,x,h=>by
   rw [List.sum_cons];rcases List.mem_cons.1 h with rfl|h
   ·omega
   ·have:=Zmz h;omega
theorem ZvE {l:List Zo} {r:Tr Zm} (h:r∈Zt l):Zb9 r.2<=60*ZcE l:=by
 refine Nat.le_trans ?_ (ZiG l);rw [<- ZkM];exact Zmz (List.mem_map.2 ⟨r,h,rfl⟩)
theorem ZBu {l:List Zo} {r:Tr Zm} (h:r∈Zt l):r.2.length<=2*ZcE l/\PM.ZaU r.2<=6*ZcE l:=by
 have h1:=ZvE h;have h2:=ZiK r.2;omega
theorem Zl5 (ahead:Xu) (x:ZQ):(DM.Zec ahead x).length<=50+x.1.length:=by
 have b1:=(Zc (DM.ZJ ahead x.1)).2;have b2:=(Zc (x.1.drop (DM.ZJ ahead x.1)).length).2;have b3:=(Zc x.2.1.toNat).2;have b4:=(Zc x.2.2.1.toNat).2;have b5:=(Zc x.2.2.2.toNat).2;unfold DM.Zec Z1;simp only [List.length_append] at *;rw [List.length_drop] at *;omega
theorem ZbQ:∀(ahead:Xu) (l:List ZQ),(∀x∈l,x.1.length<=65)->(DM.ZE ahead l).length<=115*l.length
 | _,[],_=>by simp [DM.ZE]
 | a,x::l,h=>by
   have h1:=ZbQ x.1 l fun y b=>h y (by simp [b]);have h2:=Zl5 a x;have h3:=h x (by simp);rw [DM.ZE,List.length_append,List.length_cons];omega
theorem Zik (l:List ZQ) (h:∀x∈l,x.1.length<=65) (j:Nat):(DM.Zfv l j).length<=10+115*16:=by
 have h1:=ZbQ [] (DM.ZB l j) fun x a=>h x (List.mem_of_mem_drop (List.mem_of_mem_take a));have h2:(DM.ZB l j).length<=16:=by unfold DM.ZB;rw [List.length_take];omega
 have h3:=(Zc (DM.ZE [] (DM.ZB l j)).length).2;unfold DM.Zfv;rw [List.length_append];omega
theorem Zgc {α β:Type} {f:α->List β} {m:Nat}:∀{l:List α},(∀x∈l,(f x).length<=m)->(l.flatMap f).length<=m*l.length
 | [],_=>by simp
 | x::l,h=>by
   have h1:=Zgc (l:=l) fun y a=>h y (by simp [a]);have h2:=h x (by simp);rw [List.flatMap_cons,List.length_append,List.length_cons,Nat.mul_succ];omega
theorem ZrW {l:List ZQ} (h:∀x∈l,x.1.length<=65):(ZbJ l).length<=10+1850*((l.length+15) / 16):=by
 have a:=Zgc (l:=List.range (DM.Zu l)) (f:=DM.Zfv l) (m:=1850) fun j _=>Zik l h j;have h2:=(Zc l.length).2;rw [List.length_range] at a;unfold ZbJ DM.ZbS;rw [List.length_append,List.drop_zero];unfold DM.Zu at a ⊢;omega
theorem Zr1 (l:List Zo):∀x∈Z9 0 (Zt l),x.1.length<=65:=fun x c=>by
 have a:x.1∈(Z9 0 (Zt l)).map (·.1):=List.mem_map.2 ⟨x,c,rfl⟩;rw [Zkz] at a;obtain ⟨r,b,e⟩:=List.mem_map.1 a;rw [<- e];exact (ZeA b).2
theorem ZgD:∀(l:List Zo) (z:Int),(Z0 z l).length<=10*l.length
 | [],_=>by simp [Z0]
 | d::l,z=>by
   have h1:=ZgD l d.2.1;have h2:=(Zc (zig (IntKind.i64.wrap (d.2.1 - z)))).2;rw [Z0,List.length_append,List.length_cons];unfold ZaY;omega
theorem ZuK (p:ZiN):(Zdp p).length<=50:=by
 have b1:=(Zc (zig p.1)).2;have b2:=(Zc (zig p.2.1)).2;have b3:=(Zc (zig p.2.2.1)).2;have b4:=(Zc (zig p.2.2.2.1)).2;have b5:=(Zc (zig (p.2.2.2.2:Int))).2;unfold Zdp ZaY;simp only [List.length_append];omega
def ZbA (l:List Zo):Prop:=isS l=true->(SM.encS l).length<=100000
structure Sized (l:List Zo):Prop where
 docs:l.length<=65536/\l.length<100000
 texts:ZcE l<=100000
 rows:(Zt l).length<=100000
 posts:(Zn (Zt l)).length<=6000000
 pairs:(Zai 0 ((evs l).map Z5)).length<=200000
 row:∀r∈Zt l,r.2.length<=65536/\PM.ZaU r.2<=600000/\r.1.length<=65/\isL r.2=true/\r.2≠[]
 are:Zb7 (Z9 0 (Zt l))=true
 sects:∀s∈Zax l,s.length<=16777216 - 16
theorem sized {l:List Zo} (h:isS l=true) (hs:ZbA l):Sized l:=by
 have hM:=hs h;have h0:=Zl4 h;have h1:=Zzh l;have h2:=ZsI h;have h3:=ZsJ l;have f:=(Zbx.1 h).1;have e:((evs l).map fun e=>Zao e.2).sum=ZcE l:=by unfold evs ZcE;rw [List.map_map];rfl
 have i:=Zsw (evs l);rw [e] at i;have d:=Zxm h (by omega) (by omega);refine ⟨by omega,by omega,by omega,by omega,by omega,fun r a => ?_,d,fun s c => ?_⟩
 ·have g:=ZBu a;have b:=Zq9 h r a;exact ⟨Zfm (by unfold evs;rw [List.length_map];exact f) a,by omega,(ZeA a).2,b.1,b.2⟩
 ·have g:=ZgD l 0;have b:=ZrW (Zr1 l);rw [Zb2] at b;have h7:=Zg1 (Zt l);have h8:=(Zd4 (Zt l).length).2;have h9:=ZuK (Zp l);unfold Zax at c;simp only [List.mem_cons,List.not_mem_nil,or_false] at c;rcases c with rfl|rfl|rfl|rfl|rfl|rfl
  ·omega
  ·omega
  ·omega
  ·omega
  ·omega
  ·omega
theorem Zmb {l:List Zo} (h:isS l=true) (hs:ZbA l):Zma l=true:=by
 unfold Zma;rw [List.all_eq_true];intro s a;have:=(sized h hs).sects s a;rw [decide_eq_true_eq];omega
theorem ZeM {l:List Zo} (hs:ZbA l):Zdw l=if isS l=true/\l≠[] then (Zbg l,0) else ([],130):=by
 unfold Zdw
 by_cases h:isS l=true
 ·by_cases a:l=[]
  ·rw [if_pos (.inr a),if_neg (fun h=>h.2 a)]
  ·have b:=sized h hs;have h1:=b.rows;have h2:=b.posts;rw [if_neg (by simp [h,a]),if_neg,if_pos ⟨h,a⟩];rw [Zmb h hs];rintro (h|h|h)
   ·omega
   ·omega
   ·cases h
 ·rw [if_pos (.inl (by simpa using h)),if_neg (fun k=>h k.1)]
open SM (Zo isS encS Zek ZgY Zcv ZaH)
open FM (Zah Zw Zau ZbL Zdc ZaP ZgK ZfQ ZhN Zjq Zmd Zg7)
variable {b rest:Xu} {ls L:List Xu}
def ZkE:Xu:=[76,83,69,71]
structure Six (b:Xu) (L:List Xu):Prop where
 head:b.take 4=ZkE
 six:L.length=6
 most:∀p∈L,p.length<=16777216
 told:b.drop 4=Zw L
structure Some6 (b:Xu) (ls:List Xu) (rest:Xu):Prop where
 most:∀p∈ls,p.length<=16777216
 told:b=Zw ls++rest
theorem Zeo:∀{ls L:List Xu} {rest:Xu},(∀p∈ls,p.length<=16777216)->(∀p∈L,p.length<=16777216)->Zw ls++rest=Zw L->ls.length<=L.length->ls=L.take ls.length/\rest=Zw (L.drop ls.length)
 | [],L,rest,_,_,h,_=>⟨by simp,by simpa [ZbL] using h⟩
 | p::ls,[],rest,_,_,_,hl=>absurd hl (by simp)
 | p::ls,q::L,rest,h1,h2,h,hl=>by
   rw [Zau,Zau,Xl] at h;obtain ⟨rfl,d⟩:=Zmd (h1 p (by simp)) (h2 q (by simp)) h;obtain ⟨c,e⟩:=Zeo (fun x a=>h1 x (Xa5 _ a)) (fun x a=>h2 x (Xa5 _ a)) d (by simpa using hl);rw [Xh,Xaz,XaW];exact ⟨by rw [<- c],e⟩
theorem Some6.start (b:Xu):Some6 b [] b:=⟨fun _ h=>by simp at h,by simp [ZbL]⟩
theorem Some6.next {p:Xu} {k:Nat} (h:Some6 b ls rest) (c:ZaP rest=(p,k,0)):Some6 b (ls++[p]) (ZgK rest):=by
 obtain ⟨e,h2,d⟩:=ZhN c;refine ⟨fun q a => ?_,?_⟩
 ·rcases Xak.1 a with a|a
  ·exact h.most q a
  ·obtain rfl:=XaF.1 a;exact e
 ·rw [Zjq c,Zdc,Zau,ZbL,XI,Xl,d];exact h.told
theorem Some6.odd (h:Some6 (b.drop 4) ls rest) (hk:ls.length<6) (c:(ZaP rest).2.2≠0) (L:List Xu):¬Six b L:=fun a=>by
 obtain ⟨_,e⟩:=Zeo h.most a.most (h.told.symm.trans a.told) (by have:=a.six;omega);have d:L.drop ls.length=L[ls.length]'(by have:=a.six;omega)::L.drop (ls.length+1):=X9 (by have:=a.six;omega);rw [d,Zau] at e;rw [e,ZfQ (a.most _ (XH _))] at c;exact c rfl
theorem Some6.more (h:Some6 (b.drop 4) ls rest) (d:ls.length=6) (c:rest≠[]) (L:List Xu):¬Six b L:=fun a=>by
 obtain ⟨_,e⟩:=Zeo h.most a.most (h.told.symm.trans a.told) (by have:=a.six;omega);rw [d,<- a.six,Xae,ZbL] at e;exact c e
theorem Some6.all (c:b.take 4=ZkE) (h:Some6 (b.drop 4) ls []) (a:ls.length=6):Six b ls:=⟨c,a,h.most,by rw [h.told,XI]⟩
theorem Six.unique {M:List Xu} (h:Six b L) (k:Six b M):L=M:=by
 obtain ⟨e,_⟩:=Zeo (rest:=[]) h.most k.most (by rw [XI,<- h.told,k.told]) (by rw [h.six,k.six];exact Xc _);rw [h.six,<- k.six,XC] at e;exact e
theorem ZoA {l:List Zo} (h:Zma l=true):Six (Zbg l) (Zax l) :=
 ⟨rfl,rfl,fun p a=>by unfold Zma at h;rw [List.all_eq_true] at h;exact of_decide_eq_true (h p a),rfl⟩
theorem Zlo {l:List Zo} (h:ZcD b=some l):Six b (Zax l):=by
 obtain ⟨a,_⟩:=ZhL h;obtain ⟨_,_,_,_,c,rfl⟩:=Ze9 a;exact ZoA c
theorem Zrc (h:∀L,¬Six b L):ZcD b=none:=by
 cases hd:ZcD b with
 | none=>rfl
 | some l=>exact absurd (Zlo hd) (h _)
def Zdv (L:List Xu):List Zo:=(Zek (L.headD [])).getD []
theorem Zin (L:List Xu):ZaH (Zdv L):=by
 unfold Zdv;cases h:Zek (L.headD []) with
 | none=>intro d a;simp at a
 | some l=>exact (Zcv h).2.1
theorem Zo2 {l:List Zo} (h:isS l=true) (a:ZaH l):Zdv (Zax l)=l:=by
 show (Zek (SM.encS l)).getD []=l
 rw [ZgY h a];rfl
theorem ZqJ (h:Six b L) (c:Zdw (Zdv L)=(b,0)):ZcD b=some (Zdv L)/\L=Zax (Zdv L):=by
 have a:=Zw1.2 ⟨c,Zin L⟩;exact ⟨a,h.unique (Zlo a)⟩
theorem Zph (h:Six b L) (a:Zdw (Zdv L)≠(b,0)):ZcD b=none:=by
 cases hd:ZcD b with
 | none=>rfl
 | some l =>
   obtain ⟨c,d⟩:=ZhL hd;have e:=h.unique (Zlo hd);subst e;rw [Zo2 (Ze9 c).1 d] at a;exact absurd c a
theorem Zf9 (h:(L.headD []).length<=100000):ZbA (Zdv L):=fun hs=>by
 unfold Zdv at hs ⊢;cases hd:Zek (L.headD []) with
 | none=>exact (by decide +kernel:(SM.encS []).length<=100000)
 | some l =>
   show (SM.encS l).length<=100000
   rw [(Zcv hd).2.2];exact h
theorem Zfn (h:Six b L):(L.headD []).length<=b.length:=by
 have h6:=h.six;cases hL:L with
 | nil=>simp
 | cons p r =>
   have e:=Xp List.length h.told;rw [hL,Zau,Xd,Xj] at e;have h1:=(FM.Zbu p).1
   show p.length<=b.length
   omega
def ZhB (b:Xu):Prop:=b.length<=1000000000/\∀L,Six b L->(L.headD []).length<=100000
theorem Zk6 (h:b.length<=100000):ZhB b:=⟨by omega,fun L a=>Xx (Zfn a) h⟩
theorem Zii {l:List Zo} (h:isS l=true) (hs:ZbA l):(Zbg l).length<=200000000:=by
 have f:=sized h hs
 have a:∀(ps:List Xu),(∀p∈ps,p.length<=16777200)->(Zw ps).length<=16777300*ps.length:=by
  intro ps
  induction ps with
  | nil=>intro _;simp [ZbL]
  | cons p ps ih =>
    intro c;have g:=(FM.Zbu p).2;have e:=c p (by simp);have h3:=ih fun q d=>c q (by simp [d]);rw [Zau,Xd,Xh];omega
 have g:=a (Zax l) f.sects;have e:(Zax l).length=6:=rfl;unfold Zbg;rw [Xd,Xh,Xh,Xh,Xh,Xm];omega
theorem Zk5 {l:List Zo} (h:isS l=true) (hs:ZbA l):ZhB (Zbg l):=by
 refine ⟨by have:=Zii h hs;omega,fun L a => ?_⟩;rw [a.unique (ZoA (Zmb h hs))];exact hs h
end GM
namespace MM
open RowKit
theorem Zpk {P:Program} {fn:Func} {t:TypeId} {c:TypeDesc} {p:Tmp} (h:fn.results=#[.cell p t]) (f:P.underlying t=some c) (e:(match c with | .struct _ | .array _ _=>true|_=>false)=true) (a:Array Value) (hi:(P.info? t).map (·.size)=some a.size) (tmps:Array Value) (w:World) (g:Nat)
  (i:tmps.getD p undef=.pointer (some ⟨g,0,none⟩)) (d:w.heap[g]? = some (.cells a t (0,0))):(results fn tmps).run P w=.ok (.agg a) w:=by
 have b:tmps[p]?.getD undef=.pointer (some ⟨g,0,none⟩):=by simpa using i
 have j:=run_loadVar_row (P:=P) w g t t a (0,0) c d f e hi;simp [results,h,b,asAddr,j]
theorem Zh {w:World} {g:Nat} {a:Array Value} {t:TypeId} {fr:Nat×Nat} (h:w.heap[g]? = some (.cells a t fr)) (i:Nat):w.cell? ⟨g,i,none⟩=a[i]? := cell_of_row w g i _ _ _ h
end MM
namespace EV
open RowKit MM EM
variable {S:Nat->Prop} {w:World} {B:Nat} {v:Value}
theorem Zqv:Elem Zbw prog 69 3 8:=⟨underlying69,by
 have h:(prog.info? 3).map (fun i=>(i.zero,i.size,i.bytes))=some (some (.int .i64 0),1,8):=by kernel_rfl
 obtain ⟨i,b,c,a,d⟩:=info_parts h;exact ⟨i,_,b,c,a,d,rfl⟩⟩
def Zbz (w:World) (b:Nat):Prop:=∃a fr,w.heap[b]? = some (.cells a 3 fr)
def Zcb:Codec Trm:=ZeJ Zij (Zfu Zbw)
theorem Znb {c:List Value} {t:Trm}:Zcb.on S w c t↔∃v,c=[.string ⟨t.1.toArray⟩,v]/\ZD Zbw S w v t.2:=by
 constructor
 ·rintro ⟨x,y,rfl,b,v,d,a⟩;have b:x=[.string ⟨t.1.toArray⟩]:=b;exact ⟨v,by rw [b,d];rfl,a⟩
 ·rintro ⟨v,rfl,a⟩;exact ⟨[_],[v],rfl,rfl,v,rfl,a⟩
theorem ZgT {α:Type}:∀(l:List (EM.Tr α)) (s:Xu) (p:α),(Zaj l s p).length<=l.length+1
 | [],s,p=>by simp [Zaj]
 | t::r,s,p=>by
   have ih:=ZgT r s p;rw [Zaj]
   split
   ·simp only [Xh];omega
   ·split<;>simp
theorem ZxT (w:World) (a:List Int) (c:a.length<=maxLen):ZN Zbw (w.alloc (.cells (a.map fun z=>Value.int .i64 z).toArray 3)) (.slice (some ⟨w.heap.size,0,none⟩) a.length a.length) a:=by
 have:=Zju (C:=Zbw) (S:=fun _=>True) (e:=3) w (a.map fun z=>[.int .i64 z]) a c ⟨by simp,fun i hi b=>by rw [XaA];rfl⟩;rw [Zdb] at this;exact this.any
theorem Zna {p:Option Addr} {n e:Nat} {c:List Trm} (h:ZD Zcb S w (.slice p n e) c) {k:Nat} (l:k<c.length) :
  ∃b off v,p=some ⟨b,off,none⟩/\b<w.heap.size/\S b/\w.cell? ⟨b,off+k*2,none⟩=some (.string ⟨c[k].1.toArray⟩)/\w.cell? ⟨b,off+k*2+1,none⟩=some v/\ZD Zbw S w v c[k].2:=by
 obtain ⟨b,off,vs,i,d,j,a,f⟩:=h.at_ l;rw [Znb] at a;obtain ⟨v,rfl,g⟩:=a;exact ⟨b,off,v,i,d,j,f 0 _ rfl,f 1 _ rfl,g⟩
def ZiQ (B:Nat) (w:World) (v:Value) (T:List Trm):Prop:=ZD Zcb (fun b=>B<=b) w v T
theorem ZiQ.below {w':World} {T:List Trm} (h:ZiQ B w v T) (a:Below w.heap.size w w'):ZiQ B w' v T:=ZD.keep h (Za _ a) fun _ _ h=>h
theorem ZiQ.of {a:World} {T:List Trm} (c:B<=a.heap.size) (h:ZD Zcb (fun b=>B<=b\/a.heap.size<=b) w v T):ZiQ B w v T:=ZD.weak h fun b _ d=>d.elim id fun h=>Xx c h
def ZpB (T:List Trm) (w:World) (e:Ending) (w':World):Prop:=∃u,e=.returned u/\ZiQ w.heap.size w' u T/\Below w.heap.size w w'
end EV
namespace MM
open RowKit
variable {S:Nat->Prop} {e:TypeId} {A g i k:Nat} {w':World}
def ZCX:Codec Value where
 size:=1
 on:=fun _ _ vs u=>vs=[u]/\u.oneCell'=true
 pos:=by decide
 len:=fun h=>by rw [h.1];rfl
 keep:=fun h _ _=>h
 one:=fun h u a=>by rw [h.1] at a;simp at a;rw [a];exact h.2
abbrev ZgS:=Xu×Value
def Zkc:Codec ZgS:=ZeJ Zij ZCX
theorem Zgv {w:World} {vs:List Value} {p:ZgS}:Zkc.on S w vs p↔vs=[.string ⟨p.1.toArray⟩,p.2]/\p.2.oneCell'=true:=by
 constructor
 ·rintro ⟨x,y,h,a,c,b⟩;have a:x=[.string ⟨p.1.toArray⟩]:=a;exact ⟨by rw [h,a,c];rfl,b⟩
 ·rintro ⟨h,a⟩;exact ⟨[.string ⟨p.1.toArray⟩],[p.2],h,rfl,rfl,a⟩
theorem ZBU {B:Nat} {w:World} {v:Value} {ps:List ZgS} (h:Zz Zkc e B (fun _=>False) w v ps):ZbI Zkc e B w v ps:=by
 obtain ⟨a,b,c⟩:=h;exact ⟨a,b,c.keep (Kep.refl _ _) fun _ _ h=>h.elim⟩
theorem ZCR {B:Nat} {w:World} {v:Value} {ps:List ZgS} (h:ZbI Zkc e B w v ps):Zz Zkc e B (fun _=>False) w v ps:=by
 obtain ⟨a,d,c⟩:=h;exact ⟨a,d,c.1,fun i hi b=>Zgv.2 (Zgv.1 (c.2 i hi b))⟩
theorem ZqK {α:Type} {C:Codec α} {B:Nat} {w:World} {v:Value} {es:List α} (h:Zz C e A S w v es) (m:B<=A):Zz C e B S w v es:=by
 obtain ⟨b,d,j⟩:=h;refine ⟨b,⟨d.1,?_⟩,j⟩;rcases d.2 with h|⟨g,c,a,l,f,rest⟩
 ·exact .inl h
 ·exact .inr ⟨g,c,a,l,Xx m f,rest⟩
def ZdR (v:Value) (us:List Value) (b:Nat):Prop:=v.ownBlock≠some b/\∀u∈us,u.ownBlock≠some b
variable {α : Type} {D : Codec α} {e1 e2 : TypeId} {B : Nat}
structure RowsAt (D:Codec α) (e1 e2:TypeId) (B:Nat) (w:World) (v:Value) (us:List Value) (rows:List (Xu×List α)):Prop where
 len:us.length=rows.length
 outer:Zz Zkc e1 B (fun _=>False) w v (List.zip (rows.map (·.1)) us)
 inner:∀i (h:i<us.length) (h':i<rows.length),Zz D e2 B (ZdR v us) w us[i] rows[i].2
 apart:∀i j (h:i<us.length) (h':j<us.length) g,us[i].ownBlock=some g->us[j].ownBlock=some g->i=j
theorem RowsAt.nil_ (w:World):RowsAt D e1 e2 B w (.slice none 0 0) [] []:=⟨rfl,Zz.nil_ _ _ _ _,fun i h=>absurd h (by simp),fun i j h=>absurd h (by simp)⟩
variable {w : World} {v : Value} {us : List Value} {rows : List (Xu × List α)}
theorem RowsAt.kep (h:RowsAt D e1 e2 B w v us rows) (b:Kep (fun _=>True) w w'):RowsAt D e1 e2 B w' v us rows :=
 ⟨h.len,h.outer.keep b (fun _ _ _=>trivial) (fun _ _=>trivial),fun i hi a=>(h.inner i hi a).keep b (fun _ _ _=>trivial) (fun _ _=>trivial),h.apart⟩
theorem RowsAt.below (h:RowsAt D e1 e2 B w v us rows) (a:Below w.heap.size w w'):RowsAt D e1 e2 B w' v us rows:=h.kep (Za _ a)
theorem RowsAt.zlen (h:RowsAt D e1 e2 B w v us rows):(List.zip (rows.map (·.1)) us).length=rows.length:=by rw [List.length_zip,XE,h.len,Nat.min_self]
theorem RowsAt.shape (h:RowsAt D e1 e2 B w v us rows):∃p a,v=.slice p rows.length a/\rows.length<=a/\a<=maxLen/\(p=none->a=0):=by
 have:=h.outer.any.shape;rw [h.zlen] at this;exact this
theorem RowsAt.olt (h:RowsAt D e1 e2 B w v us rows) (a:v.ownBlock=some g):B<=g/\g<w.heap.size:=⟨(h.outer.cells a).1,(h.outer.cells a).2.1⟩
theorem RowsAt.ilt (h:RowsAt D e1 e2 B w v us rows) (hi:i<us.length) (a:us[i].ownBlock=some g):B<=g/\g<w.heap.size :=
 have:=(h.inner i hi (by rw [<- h.len];exact hi)).cells a;⟨this.1,this.2.1⟩
theorem RowsAt.out (h:RowsAt D e1 e2 B w v us rows) (b:e1≠e2) (hi:i<us.length) (c:us[i].ownBlock=some g):v.ownBlock≠some g:=fun d=>by
 obtain ⟨_,_,c1,f1,f⟩:=h.outer.cells d;obtain ⟨_,_,c2,f2,a⟩:=(h.inner i hi (by rw [<- h.len];exact hi)).cells c;rw [f] at a;simp only [Xv,Obj.cells.injEq] at a;exact b a.2.1
theorem RowsAt.at_ (h:RowsAt D e1 e2 B w v us rows) (hk:k<us.length) (l:k<rows.length):∃g c,v=.slice (some ⟨g,0,none⟩) rows.length c/\g<w.heap.size/\B<=g /\
  w.cell? ⟨g,k*2,none⟩=some (.string ⟨rows[k].1.toArray⟩)/\w.cell? ⟨g,k*2+1,none⟩=some us[k]/\(∀j,w.frozen? ⟨g,j,none⟩=false):=by
 have f:=h.zlen;have m:k<(List.zip (rows.map (·.1)) us).length:=by rw [f];exact l
 have q:=ZBU h.outer;obtain ⟨p,c,hv,r,_,hp⟩:=h.shape;have y:=h.outer;obtain ⟨x,n,_⟩:=y;rcases n.2 with ⟨_,z⟩|⟨g,cap',u,a,t,s,_⟩
 ·rw [f] at z;omega
 ·rw [f] at a;rw [a] at q;obtain ⟨vs,d,o,C,_⟩:=q.elem m;have b:=(Zgv.1 d).1;simp only [List.getElem_zip,XaA] at b;refine ⟨g,cap',a,(Xo.1 s).1,t,?_,?_,C⟩
  ·have:=o 0 _ (by rw [b];rfl);exact this
  ·exact o 1 _ (by rw [b];rfl)
theorem ZtZ {β γ:Type}:∀(a:List β) (b:List γ) (k:Nat) (u:γ) (d:k<a.length) (c:a.length=b.length),List.zip a (b.set k u)=(List.zip a b).set k (a[k],u)
 | x::a,y::b,0,u,_,_=>rfl
 | x::a,y::b,k+1,u,d,c=>by
   rw [Xq,List.zip_cons_cons,List.zip_cons_cons,Xq,ZtZ a b k u (by simpa using d) (by simpa using c)];rfl
theorem RowsAt.hit (N:e1≠e2) (h:RowsAt D e1 e2 B w v us rows) (x:k<us.length) (E:k<rows.length) {u':Value} {es:List α} (Y:Zz D e2 B (fun b=>b<w.heap.size/\ZdR v us b) w' u' es)
  (H:Kep (fun b=>us[k].ownBlock≠some b) w w') (o:∀g,u'.ownBlock=some g->us[k].ownBlock=some g\/w.heap.size<=g) {g n X:Nat} (L:v=.slice (some ⟨g,0,none⟩) n X) :
  RowsAt D e1 e2 B (w'.setCell ⟨g,k*2+1,none⟩ u') v (us.set k u') (rows.set k (rows[k].1,es)):=by
 have m:v.ownBlock=some g:=by rw [L];rfl
 have W:u'.ownBlock≠some g:=fun e=>by
  rcases o g e with d|d
  ·exact h.out N x d m
  ·have:=(h.olt m).2;omega
 have F:Kep (fun b=>b≠g) w' (w'.setCell ⟨g,k*2+1,none⟩ u'):=Zx (fun h=>h rfl) u';have G:=Y.any.oneCell
 have t:∀b,(b<w.heap.size/\ZdR v us b)->ZdR v (us.set k u') b:=fun b ⟨l,y⟩=>⟨y.1,fun u U e=>by
  rcases List.mem_or_eq_of_mem_set U with U|rfl
  ·exact y.2 u U e
  ·rcases o b e with d|d
   ·exact y.2 _ (XH x) d
   ·omega⟩
 have r:∀{u:Value} {xs:List α},Zz D e2 B (fun b=>b<w.heap.size/\ZdR v us b) w' u xs->u.ownBlock≠some g->Zz D e2 B (ZdR v (us.set k u')) (w'.setCell ⟨g,k*2+1,none⟩ u') u xs:=fun d R =>
  Zz.weak (d.keep F (fun b _ l e=>l.2.1 (by rw [e];exact m)) (fun b l e=>R (by rw [<- e];exact l))) fun b _ l=>t b l
 have q:Zz Zkc e1 B (fun _=>False) w' v (List.zip (rows.map (·.1)) us):=h.outer.keep H (fun _ _ h=>h.elim) fun g' M=>fun e=>h.out N x e M;refine ⟨by rw [Xay,Xay];exact h.len,?_,fun i hi s => ?_,fun i j hi I b f a => ?_⟩
 ·have hz:k<(List.zip (rows.map (·.1)) us).length:=by rw [h.zlen];exact E
  have Z:=ZBU q;rw [L] at Z;obtain ⟨vs,J,_,_,O⟩:=Z.elem hz;have V:=(Zgv.1 J).1;have C:=O 1 u' (rows[k].1,u') (by show 1<2;omega) (Zgv.2 ⟨by rw [V];simp,G⟩)
  have T:List.zip ((rows.set k (rows[k].1,es)).map (·.1)) (us.set k u')=(List.zip (rows.map (·.1)) us).set k (rows[k].1,u'):=by
   rw [List.map_set]
   have:(rows.map (·.1)).set k rows[k].1=rows.map (·.1):=by
    apply List.ext_getElem (by simp);intro i hi s;rw [List.getElem_set]
    split
    ·rename_i c;subst c;simp
    ·rfl
   rw [this,ZtZ _ _ _ _ (by simpa using E) (by rw [XE,h.len])];simp
  rw [T,L];exact ZCR C
 ·rw [Xay] at hi s
  by_cases c:k=i
  ·subst c;simp only [Xbp];exact r Y W
  ·rw [Xa2 c,Xa2 c];exact r ((Zz.weak (h.inner i hi s) fun b l y=>⟨l,y⟩).keep H (fun b _ y=>y.2.2 _ (XH x)) (fun b l e=>c (h.apart k i x hi b e l))) (fun e=>h.out N hi e m)
 ·rw [Xay] at hi I
  by_cases z:k=i
  ·by_cases p:k=j
   ·omega
   ·subst z;rw [Xbp] at f;rw [Xa2 p] at a;rcases o b f with d|d
    ·exact h.apart k j x I b d a
    ·have:=(h.ilt I a).2;omega
  ·rw [Xa2 z] at f
   by_cases p:k=j
   ·subst p;rw [Xbp] at a;rcases o b a with d|d
    ·exact h.apart i k hi x b f d
    ·have:=(h.ilt hi f).2;omega
   ·rw [Xa2 p] at a;exact h.apart i j hi I b f a
theorem RowsAt.ins (h:RowsAt D e1 e2 B w v us rows) (U:k<=rows.length) (J:B<=w.heap.size) {v' u:Value} {s:Xu} {es:List α}
  (I:Zz Zkc e1 w.heap.size (fun _=>False) w' v' ((List.zip (rows.map (·.1)) us).take k++[(s,u)]++(List.zip (rows.map (·.1)) us).drop k))
  (H:Zz D e2 w.heap.size (fun b=>b<w.heap.size/\ZdR v us b) w' u es) (r:Below w.heap.size w w') :
  RowsAt D e1 e2 B w' v' (us.take k++u::us.drop k) (rows.take k++(s,es)::rows.drop k):=by
 have hl:=h.len;have F:k<=us.length:=by omega
 have o:∀b,(b<w.heap.size/\ZdR v us b)->ZdR v' (us.take k++u::us.drop k) b:=fun b ⟨L,E⟩=>⟨fun e=>by have:=(I.cells e).1;omega,fun x y e=>by
  rcases Xak.1 y with y|y
  ·exact E.2 x (Xaq y) e
  ·rcases XS.1 y with rfl|y
   ·have:=(H.cells e).1;omega
   ·exact E.2 x (XaX y) e⟩
 have q:∀i (hi:i<us.length) (p:i<rows.length),Zz D e2 B (ZdR v' (us.take k++u::us.drop k)) w' us[i] rows[i].2:=fun i hi p =>
  Zz.weak (Zz.keep (T:=fun _=>True) (Zz.weak (h.inner i hi p) fun b r E=>⟨r,E⟩) (Za _ r) (fun _ _ _=>trivial) (fun _ _=>trivial)) fun b _ r=>o b r
 have G:∀i (hi:i<(us.take k++u::us.drop k).length),(i<k/\∃h:i<us.length,(us.take k++u::us.drop k)[i]=us[i])\/(i=k/\(us.take k++u::us.drop k)[i]=u)\/(k<i/\∃h:i - 1<us.length,(us.take k++u::us.drop k)[i]=us[i - 1]):=fun i hi=>by
  have t:=hi;simp only [Xd,Xi,Xh,Xj] at t;rcases Nat.lt_trichotomy i k with a|a|a
  ·left;refine ⟨a,by omega,?_⟩;rw [Xa9 (by rw [Xi];omega),Xbb]
  ·right;left;subst a;refine ⟨rfl,?_⟩;rw [Xba (by rw [Xi];omega)];simp [Xi,Xao F]
  ·right;right;refine ⟨a,by omega,?_⟩;rw [Xba (by rw [Xi];omega)];have e:i - (us.take k).length=(i - 1 - k)+1:=by rw [Xi];omega
   simp only [e,Xbv,Xa0];congr 1
   omega
 refine ⟨by simp only [Xd,Xi,Xh,Xj];omega,?_,fun i hi p => ?_,fun i j hi O b d c => ?_⟩
 ·have e:List.zip ((rows.take k++(s,es)::rows.drop k).map (·.1)) (us.take k++u::us.drop k)=(List.zip (rows.map (·.1)) us).take k++[(s,u)]++(List.zip (rows.map (·.1)) us).drop k:=by
   rw [XN,XF,List.zip_append (by simp;omega),List.zip_cons_cons,List.map_take,List.map_drop,Xl];simp only [List.zip,List.take_zipWith,List.drop_zipWith,Xa8]
  rw [e];exact ZqK I J
 ·have N:∀i (hi:i<(rows.take k++(s,es)::rows.drop k).length),(i<k->∃h:i<rows.length,(rows.take k++(s,es)::rows.drop k)[i]=rows[i])/\(i=k->(rows.take k++(s,es)::rows.drop k)[i]=(s,es))/\(k<i->∃h:i - 1<rows.length,(rows.take k++(s,es)::rows.drop k)[i]=rows[i - 1]):=fun i hi=>by
   have t:=hi;simp only [Xd,Xi,Xh,Xj] at t;refine ⟨fun a=>⟨by omega,?_⟩,fun a => ?_,fun a=>⟨by omega,?_⟩⟩
   ·rw [Xa9 (by rw [Xi];omega),Xbb]
   ·subst a;rw [Xba (by rw [Xi];omega)];simp [Xi,Xao U]
   ·rw [Xba (by rw [Xi];omega)];have e:i - (rows.take k).length=(i - 1 - k)+1:=by rw [Xi];omega
    simp only [e,Xbv,Xa0];congr 1
    omega
  obtain ⟨M,R,V⟩:=N i p;rcases G i hi with ⟨a,n,e⟩|⟨a,e⟩|⟨a,n,e⟩
  ·obtain ⟨m,z⟩:=M a;rw [e,z];exact q i n m
  ·rw [e,R a];exact Zz.weak (ZqK H J) fun b _ r=>o b r
  ·obtain ⟨m,z⟩:=V a;rw [e,z];exact q (i - 1) n m
 ·have l:∀{i} (hi:i<us.length),us[i].ownBlock=some b->u.ownBlock=some b->False:=fun hi n m=>by
   have:=(h.ilt hi n).2;have:=(H.cells m).1;omega
  rcases G i hi with ⟨a,n,e⟩|⟨a,e⟩|⟨a,n,e⟩<;>rcases G j O with ⟨C,m,f⟩|⟨C,f⟩|⟨C,m,f⟩<;>rw [e] at d<;>rw [f] at c
  ·exact h.apart i j n m b d c
  ·exact (l n d c).elim
  ·have:=h.apart i (j - 1) n m b d c;omega
  ·exact (l m c d).elim
  ·omega
  ·exact (l m c d).elim
  ·have:=h.apart (i - 1) j n m b d c;omega
  ·exact (l n d c).elim
  ·have:=h.apart (i - 1) (j - 1) n m b d c;omega
theorem RowsAt.any (h:RowsAt D e1 e2 B w v us rows):ZN (ZeJ Zij (Zfu D)) w v rows:=by
 obtain ⟨p,j,f,l,m,n,q,c,a⟩:=h.outer.any;rw [h.zlen] at l m;refine ⟨p,j,f,l,m,n,q,⟨by rw [c.1,h.zlen],fun i hi b => ?_⟩,?_⟩
 ·have o:i<(List.zip (rows.map (·.1)) us).length:=by rw [<- c.1];exact hi
  have d:i<us.length:=by rw [h.len];exact b
  have:=Zgv.1 (c.2 i hi o);simp only [List.getElem_zip,XaA] at this;exact ⟨[.string ⟨rows[i].1.toArray⟩],[us[i]],this.1,rfl,us[i],rfl,(h.inner i d b).any⟩
 ·rcases a with a|a
  ·left;have:=h.zlen;rw [a] at this;exact XO this.symm
  ·exact .inr a
end MM
namespace SG
open RowKit MM
open EM (Zj Zaq)
variable {S:Nat->Prop} {w:World}
def Zd2:Codec (Int×List Int):=ZeJ Zbw (Zfu Zbw)
abbrev Znf:=Xu×List (Int×List Int)
def Zy2:Codec Znf:=ZeJ Zij (Zfu Zd2)
theorem ZCy {c:List Value} {r:Znf}:Zy2.on S w c r↔∃v,c=[.string ⟨r.1.toArray⟩,v]/\ZD Zd2 S w v r.2:=by
 constructor
 ·rintro ⟨x,y,rfl,b,v,d,a⟩;have b:x=[.string ⟨r.1.toArray⟩]:=b;exact ⟨v,by rw [b,d];rfl,a⟩
 ·rintro ⟨v,rfl,a⟩;exact ⟨[_],[v],rfl,rfl,v,rfl,a⟩
theorem Zy3 {p:Option Addr} {n d:Nat} {rs:List Znf} (h:ZD Zy2 S w (.slice p n d) rs) {k:Nat} (i:k<rs.length) :
  ∃b off v,p=some ⟨b,off,none⟩/\b<w.heap.size/\S b/\w.cell? ⟨b,off+k*2,none⟩=some (.string ⟨rs[k].1.toArray⟩)/\w.cell? ⟨b,off+k*2+1,none⟩=some v/\ZD Zd2 S w v rs[k].2:=by
 obtain ⟨b,off,vs,j,c,g,a,e⟩:=h.at_ i;rw [ZCy] at a;obtain ⟨v,rfl,f⟩:=a;exact ⟨b,off,v,j,c,g,e 0 _ rfl,e 1 _ rfl,f⟩
def ZzY (rs:List Znf) (s:Xu) (k:Nat):Prop:=k<=rs.length/\(∀j (hj:j<rs.length),j<k->Zj rs[j].1 s=true)/\∀hk:k<rs.length,Zj rs[k].1 s=false
theorem Ze0 (v:Value) (rs:List Znf) (s:Xu) (w:World) (n:ZN Zy2 w v rs) :
  Calls prog 59 #[v,.string ⟨s.toArray⟩] w fun e w'=>(∃k:Nat,e=.returned (.int .i64 k)/\ZzY rs s k)/\Below w.heap.size w w':=by
 obtain ⟨p,G,rfl,z,o,_⟩:=n.shape;unfold maxLen at o;have E:=hid n;have r:Hid (∀j (c:j<rs.length),j<0->Zj rs[j].1 s=true):=hid fun j c h=>absurd h (by omega);clear n;go_enter func59,ntmps59;go_wp2_with fail
 go_loopw [5] (fun i wr=>∃k:Nat,k<=rs.length/\i=.int .i64 k/\Hid (∀j (c:j<rs.length),j<k->Zj rs[j].1 s=true)/\Hid (Below w.heap.size w wr)) (fun i _=>rs.length - (intOf i).toNat)
 case atStart=>exact ⟨0,by omega,rfl,r,hid (Below.refl _ _)⟩
 case round =>
  obtain ⟨k,F,rfl,f,g⟩:=hrel;clear r
  by_cases a:k<rs.length
  ·have C:decide ((k:Int)<(rs.length:Int))=true:=Xt;have D:decide (k<rs.length)=true:=Xw a;have q3:(k:Int)<(rs.length:Int):=by omega
   obtain ⟨b,off,v,rfl,x,_,c1,c2,y⟩:=Zy3 (E.out.below g.out) a;obtain ⟨t,m⟩:=Xn (rs[k]);rw [m] at c1;have d:=Zaq t.1 s;have u:Hid (∀c:k<rs.length,rs[k]=t):=hid fun _=>m;have l:=hid a;clear m y;cases hless:Zj t.1 s with
   | true =>
     rw [hless] at d
     have q:Hid (∀j (c:j<rs.length),j<k+1->Zj rs[j].1 s=true):=hid fun j c A=>by
      by_cases e:j=k
      ·subst e;rw [u.out c];exact hless
      ·exact f.out j c (by omega)
     clear f hless a;go_wp2_with fail;have a:=l.out;go_roundw
     case rel=>exact ⟨k+1,by omega,by go_num,q,g⟩
     case measure=>simp [intOf];omega
   | false =>
     rw [hless] at d;have B:=hid hless;clear hless a;go_wp2_with fail;go_ret;exact ⟨⟨k,rfl,F,f.out,fun c=>by rw [u.out c];exact B.out⟩,g.out⟩
  ·obtain rfl:k=rs.length:=by omega
   have C:decide ((rs.length:Int)<(rs.length:Int))=false:=by simp
   have D:decide (rs.length<rs.length)=false:=by simp
   clear a;go_wp2_with fail;go_ret;exact ⟨⟨rs.length,rfl,Xc _,f.out,fun c=>absurd c (by omega)⟩,g.out⟩
end SG
namespace DT
open RowKit MM DM
open EM (Zj)
variable {S:Nat->Prop} {w:World}
def ZbT:Codec ZQ:=ZeJ Zij (ZeJ Zbw (ZeJ Zbw Zbw))
theorem Zqd:ZbT.size=4:=rfl
def Zl6 (x:ZQ):Value:=.agg #[.string ⟨x.1.toArray⟩,.int .i64 x.2.1,.int .i64 x.2.2.1,.int .i64 x.2.2.2]
theorem Zio {k:List Value} {x:ZQ}:ZbT.on S w k x↔k=[.string ⟨x.1.toArray⟩,.int .i64 x.2.1,.int .i64 x.2.2.1,.int .i64 x.2.2.2]:=by
 constructor
 ·rintro ⟨a,b,rfl,i,c,d,rfl,h,e,f,rfl,g,j⟩;have i:a=[.string ⟨x.1.toArray⟩]:=i;have h:c=[.int .i64 x.2.1]:=h;have g:e=[.int .i64 x.2.2.1]:=g;have j:f=[.int .i64 x.2.2.2]:=j;rw [i,h,g,j];rfl
 ·rintro rfl;exact ⟨[_],[_,_,_],rfl,rfl,[_],[_,_],rfl,rfl,[_],[_],rfl,rfl,rfl⟩
theorem Zdx {p:Option Addr} {n e:Nat} {l:List ZQ} (h:ZD ZbT S w (.slice p n e) l) {k:Nat} (g:k<l.length) :
  ∃b off,p=some ⟨b,off,none⟩/\b<w.heap.size/\S b/\w.cell? ⟨b,off+k*4,none⟩=some (.string ⟨l[k].1.toArray⟩)/\w.cell? ⟨b,off+k*4+1,none⟩=some (.int .i64 l[k].2.1) /\
    w.cell? ⟨b,off+k*4+2,none⟩=some (.int .i64 l[k].2.2.1)/\w.cell? ⟨b,off+k*4+3,none⟩=some (.int .i64 l[k].2.2.2):=by
 obtain ⟨b,off,vs,i,d,f,a,c⟩:=h.at_ g;rw [Zio] at a;subst a;exact ⟨b,off,i,d,f,c 0 _ rfl,c 1 _ rfl,c 2 _ rfl,c 3 _ rfl⟩
theorem Zd7 (l:Xu):(⟨l.toArray⟩:ByteArray).data.toList=l:=by simp
theorem Zbh (l:Xu):(⟨l.toArray⟩:ByteArray).size=l.length:=by rw [Lib.size_eq]
def Zo9:ZQ:=([],0,0,0)
def ZfL (l:List ZQ) (t:Xu):Option ZQ:=l.find? fun x=>decide (x.1=t)
def ZcU (l:List ZQ) (t:Xu):Nat:=(l.filter fun x=>Zj x.1 t).length
theorem Zn1 (l:List ZQ) (t:Xu):ZcU l t<=l.length:=List.length_filter_le _ _
open EM (Zj Zaq)
theorem Ze0 (z:Int) (w:World):Calls prog 147 #[.int .i64 z] w fun e w'=>e=.returned (.bool (ZcB z))/\w'=w:=by
 unfold ZcB
 by_cases h:0<=z
 ·have a:decide (0<=z)=true:=by simpa using h
  have c:decide (z>=0)=true:=a
  by_cases b:z<=67108864
  ·have t3:decide (z<=67108864)=true:=by simpa using b
   rw [a,t3];clear h b;go_enter func147,ntmps147;go_wp2_with fail;go_ret;exact ⟨rfl,rfl⟩
  ·have t3:decide (z<=67108864)=false:=by simpa using b
   rw [a,t3];clear h b;go_enter func147,ntmps147;go_wp2_with fail;go_ret;exact ⟨rfl,rfl⟩
 ·have a:decide (0<=z)=false:=by simpa using h
  have c:decide (z>=0)=false:=a;rw [a,Xad];clear h;go_enter func147,ntmps147;go_wp2_with fail;go_ret;exact ⟨rfl,rfl⟩
theorem ZlG {a b:Xu} {k:Nat} {x:UInt8} (h:∀i,i<k->a[i]? = b[i]?) (c:a[k]? = some x) (d:b[k]? = some x):∀i,i<k+1->a[i]? = b[i]? := fun i hi=>by
 by_cases e:i=k
 ·rw [e,c,d]
 ·exact h i (by omega)
theorem Zra (a b:Xu) (w:World) (ha:a.length<=1000000000000) (hb:b.length<=1000000000000):Calls prog 148 #[.string ⟨a.toArray⟩,.string ⟨b.toArray⟩] w fun e w'=>e=.returned (.int .i64 (ZJ a b:Int))/\∃m,w'=w.drewN m:=by
 obtain ⟨s,hs⟩:∃s:ByteArray,(⟨a.toArray⟩:ByteArray)=s:=⟨_,rfl⟩;obtain ⟨t,H⟩:∃s:ByteArray,(⟨b.toArray⟩:ByteArray)=s:=⟨_,rfl⟩;have p:s.data.toList=a:=by rw [<- hs]
 have q:t.data.toList=b:=by rw [<- H]
 rw [hs,H];have d:=hid (fun k=>@ZiH a b k);obtain ⟨L,n⟩:=Xn (ZJ a b);rw [n] at d ⊢;have M:=hid p;have X:=hid q;have G:=hid (Zc7 p);have J:=hid (Zc7 q);clear hs H p q n;go_enter func148,ntmps148;go_wp2_with fail
 go_loopw [5] (fun F wr=>∃i:Nat,i<=a.length/\i<=b.length/\F=.int .i64 i/\Hid (∀j,j<i->a[j]? = b[j]?)/\Hid (∃m,wr=w.drewN m)) (fun F _=>a.length - (intOf F).toNat)
 case atStart=>exact ⟨0,by omega,by omega,rfl,hid (fun j h=>by omega),hid ⟨0,rfl⟩⟩
 case round =>
  obtain ⟨i,r,u,rfl,o,C⟩:=hrel;have D:=G.out;have E:=J.out
  by_cases v:i<a.length
  ·have T:decide ((i:Int)<(s.size:Int))=true:=Xt;have W:decide (i<s.size)=true:=Xt
   by_cases z:i<b.length
   ·have V:decide ((i:Int)<(t.size:Int))=true:=Xt;have S:decide (i<t.size)=true:=Xt;obtain ⟨B,g⟩:∃c,a[i]? = some c:=⟨a[i],XW v⟩;obtain ⟨I,f⟩:∃c,b[i]? = some c:=⟨b[i],XW z⟩;have N:=ZgC M.out g;have O:=ZgC X.out f
    by_cases l:B=I
    ·subst l;have R:=hid (ZlG o.out g f);have U:=hid (And.intro v z);generalize B.toNat=x at *;clear o D E v z g f;go_wp2_with fail;go_quiet (fail)
     go_wp2_with fail;have hh:=U.out;go_roundw
     case rel=>exact ⟨i+1,by omega,by omega,by go_num,R,hid (ZcT C.out _)⟩
     case measure=>simp [intOf];omega
    ·have A:=d.out i r u o.out (fun _ _ e=>l (by rw [g,f] at e;exact XP e));have q5:((B.toNat:Int) == (I.toNat:Int))=false:=by rw [Xab];exact fun e=>l (XaT.1 (by omega))
     subst A;generalize B.toNat=x at *;generalize I.toNat=y at *;clear o D E v z l g f;go_wp2_with fail;go_quiet (fail)
     go_wp2_with fail;go_ret;exact ⟨rfl,ZcT C.out _⟩
   ·have V:decide ((i:Int)<(t.size:Int))=false:=Xf;have S:decide (i<t.size)=false:=Xf;have A:=d.out i r u o.out (fun _ h=>absurd h z);subst A;clear o D E v z;go_wp2_with fail;go_quiet (fail)
    go_wp2_with fail;go_ret;exact ⟨rfl,ZcT C.out _⟩
  ·have T:decide ((i:Int)<(s.size:Int))=false:=Xf;have W:decide (i<s.size)=false:=Xf;have A:=d.out i r u o.out (fun h=>absurd h v);subst A;clear o D E v;go_wp2_with fail;go_quiet (fail)
   go_wp2_with fail;go_ret;exact ⟨rfl,ZcT C.out _⟩
theorem Zgh:(prog.info? 102).map (·.size)=some 4:=by kernel_rfl
theorem Zuv:Elem ZbT prog 97 102 40:=⟨underlying97,by
 have h:(prog.info? 102).map (fun i=>(i.zero,i.size,i.bytes))=some (some (.agg #[.string ⟨#[]⟩,.int .i64 0,.int .i64 0,.int .i64 0]),4,40):=by kernel_rfl
 obtain ⟨i,b,c,a,d⟩:=info_parts h;exact ⟨i,_,b,c,a,d,rfl⟩⟩
def Found (o:Option ZQ) (w:World) (e:Ending) (w':World):Prop:=e=.returned (.tuple #[Zl6 (o.getD Zo9),.bool o.isSome])/\Below w.heap.size w w'
theorem Zm0 (a b:Xu) (w:World) (ha:a.length<=1000000000000) (hb:b.length<=1000000000000):Calls prog 197 #[.string ⟨a.toArray⟩,.string ⟨b.toArray⟩] w fun e w'=>e=.returned (.int .i64 (ZJ a b:Int))/\∃m,w'=w.drewN m:=by
 obtain ⟨s,hs⟩:∃s:ByteArray,(⟨a.toArray⟩:ByteArray)=s:=⟨_,rfl⟩;obtain ⟨t,E⟩:∃s:ByteArray,(⟨b.toArray⟩:ByteArray)=s:=⟨_,rfl⟩;have o:s.data.toList=a:=by rw [<- hs]
 have p:t.data.toList=b:=by rw [<- E]
 rw [hs,E];have f:=hid (fun k=>@ZiH a b k);obtain ⟨O,n⟩:=Xn (ZJ a b);rw [n] at f ⊢;have R:=hid o;have Y:=hid p;have D:=hid (Zc7 o);have N:=hid (Zc7 p);clear hs E o p n;go_enter func197,ntmps197;go_wp2_with fail
 go_loopw [5] (fun C wr=>∃i:Nat,i<=a.length/\i<=b.length/\C=.int .i64 i/\Hid (∀j,j<i->a[j]? = b[j]?)/\Hid (∃m,wr=w.drewN m)) (fun C _=>a.length - (intOf C).toNat)
 case atStart=>exact ⟨0,by omega,by omega,rfl,hid (fun j h=>by omega),hid ⟨0,rfl⟩⟩
 case round =>
  obtain ⟨i,r,u,rfl,q,F⟩:=hrel;have G:=D.out;have L:=N.out;obtain ⟨M,I⟩:=Xn (min s.size t.size);have m1:min (s.size:Int) (t.size:Int)=(M:Int):=by omega
  have m2:(if t.size<s.size then (t.size:Int) else (s.size:Int))=(M:Int):=by split<;>omega
  by_cases A:i<M
  ·have B:i<a.length:=by omega
   have z:i<b.length:=by omega
   have V:decide ((i:Int)<(M:Int))=true:=Xt;have X:decide (i<M)=true:=Xt;have q5:i<s.size:=by omega
   have q6:i<t.size:=by omega
   obtain ⟨v,g⟩:∃c,a[i]? = some c:=⟨a[i],XW B⟩;obtain ⟨J,d⟩:∃c,b[i]? = some c:=⟨b[i],XW z⟩;have S:=ZgC R.out g;have T:=ZgC Y.out d
   by_cases l:v=J
   ·subst l;have U:=hid (ZlG q.out g d);have W:=hid (And.intro B z);generalize v.toNat=x at *;clear q G L B z g d I A;go_wp2_with fail;go_quiet (fail)
    go_wp2_with fail;have hh:=W.out;go_roundw
    case rel=>exact ⟨i+1,by omega,by omega,by go_num,U,hid (ZcT F.out _)⟩
    case measure=>simp [intOf];omega
   ·have H:=f.out i r u q.out (fun _ _ e=>l (by rw [g,d] at e;exact XP e));have q7:((v.toNat:Int) == (J.toNat:Int))=false:=by rw [Xab];exact fun e=>l (XaT.1 (by omega))
    subst H;generalize v.toNat=x at *;generalize J.toNat=y at *;clear q G L B z l g d I A;go_wp2_with fail;go_quiet (fail)
    go_wp2_with fail;go_ret;exact ⟨rfl,ZcT F.out _⟩
  ·have V:decide ((i:Int)<(M:Int))=false:=Xf;have X:decide (i<M)=false:=Xf;have H:=f.out i r u q.out (fun h h'=>absurd A (by omega));subst H;clear q G L A I;go_wp2_with fail;go_quiet (fail)
   go_wp2_with fail;go_ret;exact ⟨rfl,ZcT F.out _⟩
end DT
namespace GB
open RowKit MM
variable {B q:Nat} {w W W':World} {v:Value} {l:Xu}
def Zb6 (B q:Nat) (w W:World) (v:Value) (l:Xu):Prop:=Zd B W v l/\Below B w W/\B<=W.heap.size/\q<W.heap.size/\∀g,v.ownBlock=some g->g≠q
theorem Zb6.grown {v':Value} {m:Xu} (h:Zb6 B q w W v l) (n:Zd 0 W' v' m) (a:Grown W W' v v'):Zb6 B q w W' v' m/\W'.heap[q]? = W.heap[q]? := by
 obtain ⟨p,i,o,j,f⟩:=h;have hs:=a.1.size;have b:∀k,v.ownBlock=some k->B<=k:=fun k c=>(World.ownsRow.lt p k c).1;refine ⟨⟨Zd.from n fun k c => ?_,i.trans (a.kep.below o fun k c e=>by have:=b k e;omega),by omega,by omega,fun g d => ?_⟩,a.1.block q j fun e=>f q e.symm rfl⟩
 ·rcases a.2 k c with e|e
  ·exact b k e
  ·omega
 ·rcases a.2 g d with e|e
  ·exact f g e
  ·omega
theorem Zb6.below (h:Zb6 B q w W v l) (a:Below W.heap.size W W'):Zb6 B q w W' v l:=by
 obtain ⟨e,b,d,h4,c⟩:=h;have hs:=a.size;exact ⟨e.keep a,b.trans (a.mono d),by omega,by omega,c⟩
end GB
namespace RM
open TK (Z6 Zam)
open EM (Fld Ev Tr Trm ZG ZaL Z5 Zcs Zaj ZC ZaW ZL Zae Zj ZiR Zer)
open PM (Zm)
variable {n:Nat}
theorem ZpD {α:Type} {l:List (Tr α)} {s:Xu} {k:Nat} (p:α) (a:k<l.length) (h:∀j (hj:j<l.length),j<k->Zj l[j].1 s=true) (hs:l[k].1=s):Zaj l s p=l.set k (l[k].1,l[k].2++[p]):=by
 rw [ZiR p a h hs,List.set_eq_take_append_cons_drop,Xe a,hs]
def ZiM {α:Type} (n:Nat) (l:List (Tr α)):Prop:=l.length<=n/\∀r∈l,r.2.length<=n
theorem ZiM.mono {α:Type} {m:Nat} {l:List (Tr α)} (h:ZiM n l) (a:n<=m):ZiM m l:=⟨Xx h.1 a,fun r b=>Xx (h.2 r b) a⟩
theorem Ztp {α:Type}:∀{l:List (Tr α)} {s:Xu} {p:α} {m:Nat},(∀t∈l,t.2.length<=m)->∀t∈Zaj l s p,t.2.length<=m+1
 | [],s,p,m,_=>by
   intro t a;simp only [Zaj,XaF] at a;subst a;simp
 | u::r,s,p,m,h=>by
   intro t a;have d:=h u (by simp);have b:∀v∈r,v.2.length<=m:=fun v c=>h v (by simp [c]);rw [Zaj] at a
   split at a
   ·rcases XS.1 a with rfl|a
    ·omega
    ·exact Ztp b t a
   ·split at a
    ·rcases XS.1 a with rfl|a
     ·rw [Xd];simp;exact d
     ·have:=b t a;omega
    ·rcases XS.1 a with rfl|a
     ·simp
     ·have:=h t a;omega
theorem ZlC {α:Type}:∀(l:List (Tr α)) (s:Xu) (p:α),(Zaj l s p).length<=l.length+1
 | [],s,p=>by simp [Zaj]
 | t::r,s,p=>by
   have ih:=ZlC r s p;rw [Zaj]
   split
   ·simp only [Xh];omega
   ·split<;>simp
theorem ZiM.add {α:Type} {l:List (Tr α)} (h:ZiM n l) (s:Xu) (p:α):ZiM (n+1) (Zaj l s p) :=
 ⟨by have:=ZlC l s p;have:=h.1;omega,Ztp h.2⟩
theorem Zn2 {α:Type}:∀(qs:List (Xu×α)) (l:List (Tr α)),(ZC l qs).length<=l.length+qs.length
 | [],l=>by simp [ZC]
 | q::qs,l=>by
   have h1:=Zn2 qs (Zaj l q.1 q.2);have h2:=ZlC l q.1 q.2;have a:ZC l (q::qs)=ZC (Zaj l q.1 q.2) qs:=rfl;rw [a,Xh];omega
theorem ZmE:∀(fs:List Fld) (b:Int),(∀f∈fs,f.2.length<=4096)->(ZL b fs).length<=4096*fs.length
 | [],b,_=>by simp [ZL]
 | f::r,b,h=>by
   have k:=ZmE r (b+((Z6 f.2).length:Int)+64) fun g d=>h g (by simp [d]);have e:=Zam f.2;have j:=h f (by simp);have c:(Zae f.1 (Z6 f.2) b).length=(Z6 f.2).length:=by simp [Zae]
   rw [ZL,Xd,Xh,c]
   have i:∀a,(ZL a r).length=(ZL (b+((Z6 f.2).length:Int)+64) r).length:=fun a=>by
    clear k h e j c
    induction r generalizing b a with
    | nil=>rfl
    | cons g r ih =>
      rw [ZL,ZL,Xd,Xd];congr 1
      ·simp [Zae]
      ·exact (ih b _).trans (ih b _).symm
   rw [i];omega
theorem ZoK (e:Ev):(Z5 e).length<=65536:=by
 by_cases a:ZG e=0
 ·obtain ⟨g,b⟩:=ZaL.1 a;rw [ZdK a];have c:=Zn2 (ZL 0 e.2) [];have h4:=ZmE e.2 0 fun f d=>(b f d).2;unfold Zcs;simp only [Xm,XL] at c;have h5:e.2.length<=16:=by simpa using g
  omega
 ·rw [ZcY a];simp
def ZjP (i:Int) (a:List Trm):List (Xu×Zm):=a.map fun t=>(t.1,(i,t.2))
theorem ZnM {a:List Trm} {j:Nat} (b:j<a.length) (i:Int) (R:List (Tr Zm)):ZC R (ZjP i (a.take (j+1)))=Zaj (ZC R (ZjP i (a.take j))) a[j].1 (i,a[j].2):=by
 unfold ZjP;rw [XG b,XN,ZaW];rfl
def Zhz (es:List Ev) (i:Nat):List (Tr Zm):=ZC [] (Zai 0 ((es.map Z5).take i))
theorem ZoO {es:List Ev} {i:Nat} (hi:i<es.length):Zhz es (i+1)=ZC (Zhz es i) (ZjP (i:Int) (Z5 es[i])):=by
 unfold Zhz ZjP;rw [Zhk (by simpa using hi),ZaW];simp
theorem Zrm (es:List Ev):Zhz es es.length=Zh6 es:=by
 unfold Zhz Zh6 Zjw;rw [XM (by simp)]
