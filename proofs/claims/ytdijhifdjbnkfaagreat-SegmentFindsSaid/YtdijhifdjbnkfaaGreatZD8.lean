import Derived.Test.YtdijhifdjbnkfaaGreatZD7
set_option maxRecDepth 100000
set_option maxHeartbeats 8000000
set_option linter.unusedVariables false
set_option linter.unusedSimpArgs false
namespace Go.Proofs.YtdijhifdjbnkfaaGreat.GM
open Go VM
open EM (Ev Tr Trm FitE Zbl Zrf Zxa Znl)
open PM (Post isL)
open DM (Ent okX Zpy areD areR Zcv Ztr encD)
open SM (Doc isS encS decS Zgb Zga FitS Zm9 ZmH)
open RM (Zup Zuu Zus Zur Zuq Zut)
open FM (ZjB ZjF ZjH getR Zkr Zkl)
open BM (addA ZbJ newL ZoC Zt2 Zt3 mayL Zok Zol addT Zb3)
def evs (l:List Doc):List Ev:=l.map (·.2)
def Zuv (l:List Doc):List (Tr Post):=Zup (evs l)
def ZxI:Int→List Doc→List UInt8
 | _,[]=>[]
 | a,d::r=>intL (IntKind.i64.wrap (d.2.1 - a))++ZxI d.2.1 r
def Znc:Int→List Doc→Int
 | a,[]=>a
 | _,d::r=>Znc d.2.1 r
theorem Zne:∀ (a:List Doc) (d:Doc) (z:Int),Znc z (a++[d])=d.2.1
 | [],d,z=>rfl
 | x::a,d,z=>by rw [List.cons_append,Znc,Zne a d]
theorem Znd {l:List Doc} {k:Nat} (hk:k<l.length) (z:Int):Znc z (l.take (k+1))=l[k].2.1:=by
 rw [List.take_succ_eq_append_getElem hk,Zne]
def Zrw (rows:List (Tr Post)):List UInt8:=rows.flatMap fun r=>PM.encL r.2
theorem Zrz {rows:List (Tr Post)} {k:Nat} (hk:k<rows.length):Zrw (rows.take (k+1))=Zrw (rows.take k)++PM.encL rows[k].2:=by
 unfold Zrw
 rw [List.take_succ_eq_append_getElem hk,List.flatMap_append]
 simp
theorem ZrA (rows:List (Tr Post)) (k:Nat):(Zrw (rows.take k)).length≤(Zrw rows).length:=by
 have:Zrw rows=Zrw (rows.take k)++Zrw (rows.drop k):=by
  unfold Zrw
  rw [← List.flatMap_append,List.take_append_drop]
 rw [this,List.length_append]
 omega
def ZhC:Int→List (Tr Post)→List Ent
 | _,[]=>[]
 | off,r::l=>(r.1,(off,(((PM.encL r.2).length:Int),(r.2.length:Int))))::ZhC (off+((PM.encL r.2).length:Int)) l
theorem ZhD:∀ (a b:List (Tr Post)) (off:Int),ZhC off (a++b)=ZhC off a++ZhC (off+((Zrw a).length:Int)) b
 | [],b,off=>by simp [ZhC,Zrw]
 | r::a,b,off=>by
   have e:Zrw (r::a)=PM.encL r.2++Zrw a:=by simp [Zrw]
   rw [List.cons_append,ZhC,ZhC,ZhD a b,e,List.length_append,List.cons_append]
   congr 3
   omega
theorem ZhG {rows:List (Tr Post)} {k:Nat} (hk:k<rows.length):ZhC 0 (rows.take (k+1))=ZhC 0 (rows.take k)++[(rows[k].1,(((Zrw (rows.take k)).length:Int),(((PM.encL rows[k].2).length:Int),(rows[k].2.length:Int))))]:=by
 rw [List.take_succ_eq_append_getElem hk,ZhD,ZhC,ZhC,Int.zero_add]
theorem ZhF:∀ (rows:List (Tr Post)) (off:Int),(ZhC off rows).length=rows.length
 | [],_=>rfl
 | r::rows,off=>by rw [ZhC,List.length_cons,List.length_cons,ZhF rows]
theorem ZhH:∀ (rows:List (Tr Post)) (off:Int),(ZhC off rows).map (·.1)=rows.map (·.1)
 | [],_=>rfl
 | r::rows,off=>by rw [ZhC,List.map_cons,List.map_cons,ZhH rows]
theorem ZhE:∀ {rows:List (Tr Post)} {off:Int} {p:Option (List UInt8)},Zbl rows→(∀ r∈rows,1≤r.1.length∧r.1.length≤65∧r.2.length≤65536)→(∀ q,p=some q→∀ r∈rows,Znl q r.1=true)→0≤off →
  off+((Zrw rows).length:Int)≤67108864→areR p (ZhC off rows)=true
 | [],off,p,_,_,_,_,_=>by cases p<;>rfl
 | r::rows,off,p,h,h2,h3,h4,h5=>by
   unfold Zbl at h
   rw [List.pairwise_cons] at h
   have e:Zrw (r::rows)=PM.encL r.2++Zrw rows:=by simp [Zrw]
   rw [e,List.length_append] at h5
   have hr:=h2 r (by simp)
   rw [ZhC,Zcv,Bool.and_eq_true,Bool.and_eq_true]
   refine ⟨⟨Zpy.2 ⟨⟨hr.1,hr.2.1⟩,⟨h4,?_⟩,⟨?_,?_⟩,?_,?_⟩,?_⟩,ZhE (off:=off+((PM.encL r.2).length:Int)) h.2 (fun u hu=>h2 u (by simp [hu])) (fun q hq u hu => ?_) (by omega) (by omega)⟩
   ·show off≤67108864
    omega
   ·show (0:Int)≤((PM.encL r.2).length:Int)
    omega
   ·show ((PM.encL r.2).length:Int)≤67108864
    omega
   ·show (0:Int)≤(r.2.length:Int)
    omega
   ·show (r.2.length:Int)≤67108864
    omega
   ·cases p with
    | none=>rfl
    | some q=>exact h3 q rfl r (by simp)
   ·obtain rfl:=Option.some.inj hq
    exact h.1 u hu
def Ziw (rows:List (Tr Post)):List UInt8:=(addA (newL rows.length) (rows.map (·.1))).1
theorem Zix (rows:List (Tr Post)):(Ziw rows).length=Zt2 rows.length:=by
 unfold Ziw
 rw [ZbJ,ZoC]
abbrev Foot:=Int×Int×Int×Int×Nat
def Zju (p:Foot) (d:Doc):Foot:=if p.2.2.2.2=0 then (d.2.1,d.2.1,d.1,d.1,1) else (min p.1 d.2.1,max p.2.1 d.2.1,p.2.2.1,d.1,p.2.2.2.2+1)
def Zjt (l:List Doc):Foot:=l.foldl Zju (0,0,0,0,0)
def Zjr (p:Foot):List UInt8:=intL p.1++(intL p.2.1++(intL p.2.2.1++(intL p.2.2.2.1++intL (p.2.2.2.2:Int))))
def Zvz (l:List Doc):List (List UInt8):=[SM.encS l,ZxI 0 l,Zrw (Zuv l),encD (ZhC 0 (Zuv l)),Ziw (Zuv l),Zjr (Zjt l)]
def Zd6 (l:List Doc):List UInt8:=[76,83,69,71]++ZjF (Zvz l)
def ZiP (l:List Doc):Bool:=(Zvz l).all fun s=>decide (s.length≤16777216)
def encG (l:List Doc):List UInt8×Int :=
 if isS l=false∨l=[] then ([],130) else if 262144<(Zuv l).length∨16777216<(Zrw (Zuv l)).length∨ZiP l=false then ([],2) else (Zd6 l,0)
theorem ZgQ (l:List Doc):encG l=([],130)∨encG l=([],2)∨encG l=(Zd6 l,0):=by
 unfold encG
 split
 ·exact .inl rfl
 ·split
  ·exact .inr (.inl rfl)
  ·exact .inr (.inr rfl)
theorem ZgS {l:List Doc} {b:List UInt8} (h:encG l=(b,0)):isS l=true∧l≠[]∧(Zuv l).length≤262144∧(Zrw (Zuv l)).length≤16777216∧ZiP l=true∧b=Zd6 l:=by
 unfold encG at h
 split at h
 ·simp at h
 ·rename_i h1
  split at h
  ·simp at h
  ·rename_i h2
   have h3:=congrArg Prod.fst h
   simp only [not_or] at h1 h2
   exact ⟨by simpa using h1.1,h1.2,by omega,by omega,by simpa using h2.2.2,h3.symm⟩
theorem ZgR {l:List Doc} {b:List UInt8} (h:encG l=(b,0)) (r:List UInt8):getR ((b++r).drop 4)=(SM.encS l,(ZjB (SM.encS l)).length,0):=by
 obtain ⟨_,_,_,_,h5,rfl⟩:=ZgS h
 have h6:(SM.encS l).length≤16777216:=by
  unfold ZiP Zvz at h5
  simp only [List.all_cons,Bool.and_eq_true,decide_eq_true_eq] at h5
  exact h5.1
 have e:(Zd6 l++r).drop 4=ZjB (SM.encS l)++(ZjF (Zvz l).tail++r):=by
  unfold Zd6 Zvz
  rw [ZjH]
  simp only [List.append_assoc,List.tail_cons]
  rfl
 rw [e,Zkr h6]
def decG (b:List UInt8):Option (List Doc) :=
 if b.length<4 then none
 else if (getR (b.drop 4)).2.2≠0 then none
 else match decS (getR (b.drop 4)).1 with
  | none=>none
  | some l=>if encG l=(b,0) then some l else none
theorem Zf7 {l:List Doc} {b:List UInt8} (hf:FitS l) (h:encG l=(b,0)):decG b=some l:=by
 have h1:=ZgR h []
 rw [List.append_nil] at h1
 obtain ⟨h2,_,_,_,_,e⟩:=ZgS h
 have hl:¬ b.length<4:=by rw [e];unfold Zd6;simp
 unfold decG
 rw [if_neg hl,h1]
 dsimp only
 rw [if_neg (by simp),Zgb h2 hf]
 dsimp only
 rw [if_pos h]
theorem Zf5 {b:List UInt8} {l:List Doc} (h:decG b=some l):encG l=(b,0)∧FitS l:=by
 unfold decG at h
 split at h
 ·cases h
 ·split at h
  ·cases h
  ·split at h
   ·cases h
   ·rename_i m hd
    split at h
    ·rename_i he
     obtain rfl:=Option.some.inj h
     exact ⟨he,(Zga hd).2.1⟩
    ·cases h
theorem Zf6 {b:List UInt8} {l:List Doc}:decG b=some l↔encG l=(b,0)∧FitS l:=⟨Zf5,fun ⟨h1,h2⟩=>Zf7 h2 h1⟩
theorem ZhK {l:List Doc} (h:isS l=true) (hr:(Zuv l).length≤262144) (hp:(Zrw (Zuv l)).length≤16777216):areD (ZhC 0 (Zuv l))=true:=by
 have hn:(evs l).length≤65536:=by unfold evs;rw [List.length_map];exact (ZmH.1 h).1
 unfold areD
 rw [ZhF,Bool.and_eq_true,decide_eq_true_eq]
 refine ⟨hr,ZhE (Zuu _) (fun r hr => ?_) (fun q hq=>by cases hq) (by omega) (by omega)⟩
 exact ⟨(Zur hr).1,(Zur hr).2,Zuq hn hr⟩
theorem ZuJ {l:List Doc} (h:isS l=true):∀ r∈Zuv l,isL r.2=true∧r.2≠[]:=fun r hr=>Zus (by unfold evs;rw [List.length_map];exact (ZmH.1 h).1) hr
theorem ZbN:∀ {ss:List (List UInt8)} {L:List UInt8} {t:List UInt8},0<L.length→mayL L t=true→mayL (addA L ss).1 t=true
 | [],L,t,_,h=>h
 | s::ss,L,t,hL,h=>by
   have e:(addA L (s::ss)).1=(addA (addT L s).1 ss).1:=by
    unfold addA
    rw [List.foldl_cons]
    have gen:∀ (ss:List (List UInt8)) (A:List UInt8) (n m:Nat),(ss.foldl (fun st s=>((addT st.1 s).1,st.2+(addT st.1 s).2)) (A,n)).1=(ss.foldl (fun st s=>((addT st.1 s).1,st.2+(addT st.1 s).2)) (A,m)).1:=by
     intro ss
     induction ss with
     | nil=>intro A n m;rfl
     | cons x xs ih=>intro A n m;rw [List.foldl_cons,List.foldl_cons];exact ih _ _ _
    exact gen ss _ _ _
   rw [e]
   exact ZbN (by rw [Zb3];exact hL) (Zol hL h)
theorem ZbL:∀ {ss:List (List UInt8)} {L:List UInt8} {t:List UInt8},0<L.length→t∈ss→mayL (addA L ss).1 t=true
 | s::ss,L,t,hL,h=>by
   have e:(addA L (s::ss)).1=(addA (addT L s).1 ss).1:=by
    unfold addA
    rw [List.foldl_cons]
    have gen:∀ (ss:List (List UInt8)) (A:List UInt8) (n m:Nat),(ss.foldl (fun st s=>((addT st.1 s).1,st.2+(addT st.1 s).2)) (A,n)).1=(ss.foldl (fun st s=>((addT st.1 s).1,st.2+(addT st.1 s).2)) (A,m)).1:=by
     intro ss
     induction ss with
     | nil=>intro A n m;rfl
     | cons x xs ih=>intro A n m;rw [List.foldl_cons,List.foldl_cons];exact ih _ _ _
    exact gen ss _ _ _
   rw [e]
   have hL':0<(addT L s).1.length:=by rw [Zb3];exact hL
   rcases List.mem_cons.1 h with rfl | h
   ·exact ZbN hL' (Zok hL)
   ·exact ZbL hL' h
theorem Ziy {rows:List (Tr Post)} {r:Tr Post} (h:r∈rows):mayL (Ziw rows) r.1=true:=by
 unfold Ziw
 exact ZbL (by rw [ZoC];have:=Zt3 rows.length;omega) (List.mem_map.2 ⟨r,h,rfl⟩)
end Go.Proofs.YtdijhifdjbnkfaaGreat.GM
namespace Go.Proofs.YtdijhifdjbnkfaaGreat.UM
open Go.RowKit
def ZnH (k:Nat) (r:Int):Prop:=(1≤k→¬ (65≤r∧r≤90))∧(2≤k→¬ (192≤r∧r≤214))∧(3≤k→¬ (216≤r∧r≤222))∧(4≤k→¬ (913≤r∧r≤929))∧(5≤k→¬ (931≤r∧r≤939))∧(6≤k→¬ (1024≤r∧r≤1039))∧(7≤k→¬ (1040≤r∧r≤1071))
theorem ZnQ (r:Int):ZnH 0 r:=by unfold ZnH;omega
theorem ZnI (r:Int) (h:ZnH 0 r) (g:¬ (65≤r∧r≤90)):ZnH 1 r:=by unfold ZnH at *;omega
theorem ZnJ (r:Int) (h:ZnH 1 r) (g:¬ (192≤r∧r≤214)):ZnH 2 r:=by unfold ZnH at *;omega
theorem ZnK (r:Int) (h:ZnH 2 r) (g:¬ (216≤r∧r≤222)):ZnH 3 r:=by unfold ZnH at *;omega
theorem ZnL (r:Int) (h:ZnH 3 r) (g:¬ (913≤r∧r≤929)):ZnH 4 r:=by unfold ZnH at *;omega
theorem ZnM (r:Int) (h:ZnH 4 r) (g:¬ (931≤r∧r≤939)):ZnH 5 r:=by unfold ZnH at *;omega
theorem ZnN (r:Int) (h:ZnH 5 r) (g:¬ (1024≤r∧r≤1039)):ZnH 6 r:=by unfold ZnH at *;omega
theorem ZnO (r:Int) (h:ZnH 6 r) (g:¬ (1040≤r∧r≤1071)):ZnH 7 r:=by unfold ZnH at *;omega
theorem ZnP (r:Int) (h:ZnH 7 r):Zn1 r=r:=by unfold ZnH at h;unfold Zn1;(repeat' split)<;>omega
theorem ZnT (r:Int) (g:65≤r∧r≤90):Zn1 r=r+32:=by unfold Zn1;(repeat' split)<;>omega
theorem ZnU (r:Int) (g:192≤r∧r≤214):Zn1 r=r+32:=by unfold Zn1;(repeat' split)<;>omega
theorem ZnV (r:Int) (g:216≤r∧r≤222):Zn1 r=r+32:=by unfold Zn1;(repeat' split)<;>omega
theorem ZnW (r:Int) (g:913≤r∧r≤929):Zn1 r=r+32:=by unfold Zn1;(repeat' split)<;>omega
theorem ZnX (r:Int) (g:931≤r∧r≤939):Zn1 r=r+32:=by unfold Zn1;(repeat' split)<;>omega
theorem ZnY (r:Int) (g:1024≤r∧r≤1039):Zn1 r=r+80:=by unfold Zn1;(repeat' split)<;>omega
theorem ZnZ (r:Int) (g:1040≤r∧r≤1071):Zn1 r=r+32:=by unfold Zn1;(repeat' split)<;>omega
def Zyz (k:Nat) (r:Int):Prop:=(1≤k→¬ (48≤r∧r≤57))∧(2≤k→¬ (65≤r∧r≤90))∧(3≤k→¬ (97≤r∧r≤122))∧(4≤k→¬ (192≤r∧r≤214))∧(5≤k→¬ (216≤r∧r≤246))∧(6≤k→¬ (248≤r∧r≤255))∧(7≤k→¬ (913≤r∧r≤929))∧(8≤k→¬ (931≤r∧r≤974))∧(9≤k→¬ (1024≤r∧r≤1119))
theorem ZyK (r:Int):Zyz 0 r:=by unfold Zyz;omega
theorem ZyA (r:Int) (h:Zyz 0 r) (g:¬ (48≤r∧r≤57)):Zyz 1 r:=by unfold Zyz at *;omega
theorem ZyB (r:Int) (h:Zyz 1 r) (g:¬ (65≤r∧r≤90)):Zyz 2 r:=by unfold Zyz at *;omega
theorem ZyC (r:Int) (h:Zyz 2 r) (g:¬ (97≤r∧r≤122)):Zyz 3 r:=by unfold Zyz at *;omega
theorem ZyD (r:Int) (h:Zyz 3 r) (g:¬ (192≤r∧r≤214)):Zyz 4 r:=by unfold Zyz at *;omega
theorem ZyE (r:Int) (h:Zyz 4 r) (g:¬ (216≤r∧r≤246)):Zyz 5 r:=by unfold Zyz at *;omega
theorem ZyF (r:Int) (h:Zyz 5 r) (g:¬ (248≤r∧r≤255)):Zyz 6 r:=by unfold Zyz at *;omega
theorem ZyG (r:Int) (h:Zyz 6 r) (g:¬ (913≤r∧r≤929)):Zyz 7 r:=by unfold Zyz at *;omega
theorem ZyH (r:Int) (h:Zyz 7 r) (g:¬ (931≤r∧r≤974)):Zyz 8 r:=by unfold Zyz at *;omega
theorem ZyI (r:Int) (h:Zyz 8 r) (g:¬ (1024≤r∧r≤1119)):Zyz 9 r:=by unfold Zyz at *;omega
theorem ZyJ (r:Int) (h:Zyz 9 r):ZyM r=false:=by unfold Zyz at h;unfold ZyM;exact decide_eq_false (by omega)
theorem ZyQ (r:Int) (g:48≤r∧r≤57):ZyM r=true:=by unfold ZyM;exact decide_eq_true (by omega)
theorem ZyR (r:Int) (g:65≤r∧r≤90):ZyM r=true:=by unfold ZyM;exact decide_eq_true (by omega)
theorem ZyS (r:Int) (g:97≤r∧r≤122):ZyM r=true:=by unfold ZyM;exact decide_eq_true (by omega)
theorem ZyT (r:Int) (g:192≤r∧r≤214):ZyM r=true:=by unfold ZyM;exact decide_eq_true (by omega)
theorem ZyU (r:Int) (g:216≤r∧r≤246):ZyM r=true:=by unfold ZyM;exact decide_eq_true (by omega)
theorem ZyV (r:Int) (g:248≤r∧r≤255):ZyM r=true:=by unfold ZyM;exact decide_eq_true (by omega)
theorem ZyW (r:Int) (g:913≤r∧r≤929):ZyM r=true:=by unfold ZyM;exact decide_eq_true (by omega)
theorem ZyX (r:Int) (g:931≤r∧r≤974):ZyM r=true:=by unfold ZyM;exact decide_eq_true (by omega)
theorem ZyY (r:Int) (g:1024≤r∧r≤1119):ZyM r=true:=by unfold ZyM;exact decide_eq_true (by omega)
theorem Ztf {k:IntKind} {a b:Int} (h:a=b):Ending.returned (.int k a)=.returned (.int k b):=by rw [h]
theorem Ztd {a b:Bool} (h:a=b):Ending.returned (.bool a)=.returned (.bool b):=by rw [h]
end Go.Proofs.YtdijhifdjbnkfaaGreat.UM
namespace Go.Proofs.YtdijhifdjbnkfaaGreat.UM
open Go.RowKit
theorem Zn3 (w:World):(Instr.index 339 (.agg #[.int .i64 65,.int .i64 90,.int .i64 32,.int .i64 192,.int .i64 214,.int .i64 32,.int .i64 216,.int .i64 222,.int .i64 32,.int .i64 913,.int .i64 929,.int .i64 32,.int .i64 931,.int .i64 939,.int .i64 32,.int .i64 1024,.int .i64 1039,.int .i64 80,.int .i64 1040,.int .i64 1071,.int .i64 32]) (.int .i64 0)).run Tryz.prog w=.ok (.agg #[.int .i64 65,.int .i64 90,.int .i64 32]) w:=by kernel_rfl
theorem Zn4 (w:World):(Instr.index 339 (.agg #[.int .i64 65,.int .i64 90,.int .i64 32,.int .i64 192,.int .i64 214,.int .i64 32,.int .i64 216,.int .i64 222,.int .i64 32,.int .i64 913,.int .i64 929,.int .i64 32,.int .i64 931,.int .i64 939,.int .i64 32,.int .i64 1024,.int .i64 1039,.int .i64 80,.int .i64 1040,.int .i64 1071,.int .i64 32]) (.int .i64 1)).run Tryz.prog w=.ok (.agg #[.int .i64 192,.int .i64 214,.int .i64 32]) w:=by kernel_rfl
theorem Zn5 (w:World):(Instr.index 339 (.agg #[.int .i64 65,.int .i64 90,.int .i64 32,.int .i64 192,.int .i64 214,.int .i64 32,.int .i64 216,.int .i64 222,.int .i64 32,.int .i64 913,.int .i64 929,.int .i64 32,.int .i64 931,.int .i64 939,.int .i64 32,.int .i64 1024,.int .i64 1039,.int .i64 80,.int .i64 1040,.int .i64 1071,.int .i64 32]) (.int .i64 2)).run Tryz.prog w=.ok (.agg #[.int .i64 216,.int .i64 222,.int .i64 32]) w:=by kernel_rfl
theorem Zn6 (w:World):(Instr.index 339 (.agg #[.int .i64 65,.int .i64 90,.int .i64 32,.int .i64 192,.int .i64 214,.int .i64 32,.int .i64 216,.int .i64 222,.int .i64 32,.int .i64 913,.int .i64 929,.int .i64 32,.int .i64 931,.int .i64 939,.int .i64 32,.int .i64 1024,.int .i64 1039,.int .i64 80,.int .i64 1040,.int .i64 1071,.int .i64 32]) (.int .i64 3)).run Tryz.prog w=.ok (.agg #[.int .i64 913,.int .i64 929,.int .i64 32]) w:=by kernel_rfl
theorem Zn7 (w:World):(Instr.index 339 (.agg #[.int .i64 65,.int .i64 90,.int .i64 32,.int .i64 192,.int .i64 214,.int .i64 32,.int .i64 216,.int .i64 222,.int .i64 32,.int .i64 913,.int .i64 929,.int .i64 32,.int .i64 931,.int .i64 939,.int .i64 32,.int .i64 1024,.int .i64 1039,.int .i64 80,.int .i64 1040,.int .i64 1071,.int .i64 32]) (.int .i64 4)).run Tryz.prog w=.ok (.agg #[.int .i64 931,.int .i64 939,.int .i64 32]) w:=by kernel_rfl
theorem Zn8 (w:World):(Instr.index 339 (.agg #[.int .i64 65,.int .i64 90,.int .i64 32,.int .i64 192,.int .i64 214,.int .i64 32,.int .i64 216,.int .i64 222,.int .i64 32,.int .i64 913,.int .i64 929,.int .i64 32,.int .i64 931,.int .i64 939,.int .i64 32,.int .i64 1024,.int .i64 1039,.int .i64 80,.int .i64 1040,.int .i64 1071,.int .i64 32]) (.int .i64 5)).run Tryz.prog w=.ok (.agg #[.int .i64 1024,.int .i64 1039,.int .i64 80]) w:=by kernel_rfl
theorem Zn9 (w:World):(Instr.index 339 (.agg #[.int .i64 65,.int .i64 90,.int .i64 32,.int .i64 192,.int .i64 214,.int .i64 32,.int .i64 216,.int .i64 222,.int .i64 32,.int .i64 913,.int .i64 929,.int .i64 32,.int .i64 931,.int .i64 939,.int .i64 32,.int .i64 1024,.int .i64 1039,.int .i64 80,.int .i64 1040,.int .i64 1071,.int .i64 32]) (.int .i64 6)).run Tryz.prog w=.ok (.agg #[.int .i64 1040,.int .i64 1071,.int .i64 32]) w:=by kernel_rfl
theorem Zn2 (r:Int) (w:World):Calls Tryz.prog 284 #[.int .i64 r] w fun e w'=>e=.returned (.int .i64 (Zn1 r))∧Below w.heap.size w w':=by
 go_enter Tryz.func284,Tryz.ntmps284
 go_wp2
 go_loopw [13] (fun i wr=>∃ k:Nat,k≤7∧i=.int .i64 k∧ZnH k r∧Below w.heap.size w wr) (fun i _=>7 - (intOf i).toNat)
 case atStart=>exact ⟨0,by omega,rfl,ZnQ r,Below.refl _ _⟩
 case round =>
  obtain ⟨k,hk,rfl,hno,hb⟩:=hrel
  have hsz:=hb.size
  have hk2:k=0∨k=1∨k=2∨k=3∨k=4∨k=5∨k=6∨k=7:=by omega
  rcases hk2 with rfl | rfl | rfl | rfl | rfl | rfl | rfl | rfl
  ·have hix:=Zn3
   by_cases g:65≤r∧r≤90
   ·have e:=ZnT r g
    obtain ⟨g0,g1⟩:=g
    have E:=Lib.hid e
    clear e hno
    go_wp2
    go_ret
    exact ⟨Ztf (by rw [E.out]),hb.alloc hsz _⟩
   ·have hno2:=ZnI r hno g
    clear hno
    by_cases g0:65≤r
    ·have g1:¬ r≤90:=by omega
     clear g
     go_wp2
     go_roundw
     case rel=>exact ⟨1,by omega,by go_num,hno2,hb.alloc hsz _⟩
     case measure=>simp [intOf]
    ·clear g
     go_wp2
     go_roundw
     case rel=>exact ⟨1,by omega,by go_num,hno2,hb.alloc hsz _⟩
     case measure=>simp [intOf]
  ·have hix:=Zn4
   by_cases g:192≤r∧r≤214
   ·have e:=ZnU r g
    obtain ⟨g0,g1⟩:=g
    have E:=Lib.hid e
    clear e hno
    go_wp2
    go_ret
    exact ⟨Ztf (by rw [E.out]),hb.alloc hsz _⟩
   ·have hno2:=ZnJ r hno g
    clear hno
    by_cases g0:192≤r
    ·have g1:¬ r≤214:=by omega
     clear g
     go_wp2
     go_roundw
     case rel=>exact ⟨2,by omega,by go_num,hno2,hb.alloc hsz _⟩
     case measure=>simp [intOf]
    ·clear g
     go_wp2
     go_roundw
     case rel=>exact ⟨2,by omega,by go_num,hno2,hb.alloc hsz _⟩
     case measure=>simp [intOf]
  ·have hix:=Zn5
   by_cases g:216≤r∧r≤222
   ·have e:=ZnV r g
    obtain ⟨g0,g1⟩:=g
    have E:=Lib.hid e
    clear e hno
    go_wp2
    go_ret
    exact ⟨Ztf (by rw [E.out]),hb.alloc hsz _⟩
   ·have hno2:=ZnK r hno g
    clear hno
    by_cases g0:216≤r
    ·have g1:¬ r≤222:=by omega
     clear g
     go_wp2
     go_roundw
     case rel=>exact ⟨3,by omega,by go_num,hno2,hb.alloc hsz _⟩
     case measure=>simp [intOf]
    ·clear g
     go_wp2
     go_roundw
     case rel=>exact ⟨3,by omega,by go_num,hno2,hb.alloc hsz _⟩
     case measure=>simp [intOf]
  ·have hix:=Zn6
   by_cases g:913≤r∧r≤929
   ·have e:=ZnW r g
    obtain ⟨g0,g1⟩:=g
    have E:=Lib.hid e
    clear e hno
    go_wp2
    go_ret
    exact ⟨Ztf (by rw [E.out]),hb.alloc hsz _⟩
   ·have hno2:=ZnL r hno g
    clear hno
    by_cases g0:913≤r
    ·have g1:¬ r≤929:=by omega
     clear g
     go_wp2
     go_roundw
     case rel=>exact ⟨4,by omega,by go_num,hno2,hb.alloc hsz _⟩
     case measure=>simp [intOf]
    ·clear g
     go_wp2
     go_roundw
     case rel=>exact ⟨4,by omega,by go_num,hno2,hb.alloc hsz _⟩
     case measure=>simp [intOf]
  ·have hix:=Zn7
   by_cases g:931≤r∧r≤939
   ·have e:=ZnX r g
    obtain ⟨g0,g1⟩:=g
    have E:=Lib.hid e
    clear e hno
    go_wp2
    go_ret
    exact ⟨Ztf (by rw [E.out]),hb.alloc hsz _⟩
   ·have hno2:=ZnM r hno g
    clear hno
    by_cases g0:931≤r
    ·have g1:¬ r≤939:=by omega
     clear g
     go_wp2
     go_roundw
     case rel=>exact ⟨5,by omega,by go_num,hno2,hb.alloc hsz _⟩
     case measure=>simp [intOf]
    ·clear g
     go_wp2
     go_roundw
     case rel=>exact ⟨5,by omega,by go_num,hno2,hb.alloc hsz _⟩
     case measure=>simp [intOf]
  ·have hix:=Zn8
   by_cases g:1024≤r∧r≤1039
   ·have e:=ZnY r g
    obtain ⟨g0,g1⟩:=g
    have E:=Lib.hid e
    clear e hno
    go_wp2
    go_ret
    exact ⟨Ztf (by rw [E.out]),hb.alloc hsz _⟩
   ·have hno2:=ZnN r hno g
    clear hno
    by_cases g0:1024≤r
    ·have g1:¬ r≤1039:=by omega
     clear g
     go_wp2
     go_roundw
     case rel=>exact ⟨6,by omega,by go_num,hno2,hb.alloc hsz _⟩
     case measure=>simp [intOf]
    ·clear g
     go_wp2
     go_roundw
     case rel=>exact ⟨6,by omega,by go_num,hno2,hb.alloc hsz _⟩
     case measure=>simp [intOf]
  ·have hix:=Zn9
   by_cases g:1040≤r∧r≤1071
   ·have e:=ZnZ r g
    obtain ⟨g0,g1⟩:=g
    have E:=Lib.hid e
    clear e hno
    go_wp2
    go_ret
    exact ⟨Ztf (by rw [E.out]),hb.alloc hsz _⟩
   ·have hno2:=ZnO r hno g
    clear hno
    by_cases g0:1040≤r
    ·have g1:¬ r≤1071:=by omega
     clear g
     go_wp2
     go_roundw
     case rel=>exact ⟨7,by omega,by go_num,hno2,hb.alloc hsz _⟩
     case measure=>simp [intOf]
    ·clear g
     go_wp2
     go_roundw
     case rel=>exact ⟨7,by omega,by go_num,hno2,hb.alloc hsz _⟩
     case measure=>simp [intOf]
  ·have e:=ZnP r hno
   have E:=Lib.hid e
   clear e hno
   go_wp2
   go_ret
   exact ⟨Ztf (by rw [E.out]),hb⟩
end Go.Proofs.YtdijhifdjbnkfaaGreat.UM
namespace Go.Proofs.YtdijhifdjbnkfaaGreat.UM
open Go.RowKit
theorem ZyZ (w:World):(Instr.index 335 (.agg #[.int .i64 48,.int .i64 57,.int .i64 65,.int .i64 90,.int .i64 97,.int .i64 122,.int .i64 192,.int .i64 214,.int .i64 216,.int .i64 246,.int .i64 248,.int .i64 255,.int .i64 913,.int .i64 929,.int .i64 931,.int .i64 974,.int .i64 1024,.int .i64 1119]) (.int .i64 0)).run Tryz.prog w=.ok (.agg #[.int .i64 48,.int .i64 57]) w:=by kernel_rfl
theorem Zy0 (w:World):(Instr.index 335 (.agg #[.int .i64 48,.int .i64 57,.int .i64 65,.int .i64 90,.int .i64 97,.int .i64 122,.int .i64 192,.int .i64 214,.int .i64 216,.int .i64 246,.int .i64 248,.int .i64 255,.int .i64 913,.int .i64 929,.int .i64 931,.int .i64 974,.int .i64 1024,.int .i64 1119]) (.int .i64 1)).run Tryz.prog w=.ok (.agg #[.int .i64 65,.int .i64 90]) w:=by kernel_rfl
theorem Zy1 (w:World):(Instr.index 335 (.agg #[.int .i64 48,.int .i64 57,.int .i64 65,.int .i64 90,.int .i64 97,.int .i64 122,.int .i64 192,.int .i64 214,.int .i64 216,.int .i64 246,.int .i64 248,.int .i64 255,.int .i64 913,.int .i64 929,.int .i64 931,.int .i64 974,.int .i64 1024,.int .i64 1119]) (.int .i64 2)).run Tryz.prog w=.ok (.agg #[.int .i64 97,.int .i64 122]) w:=by kernel_rfl
theorem Zy2 (w:World):(Instr.index 335 (.agg #[.int .i64 48,.int .i64 57,.int .i64 65,.int .i64 90,.int .i64 97,.int .i64 122,.int .i64 192,.int .i64 214,.int .i64 216,.int .i64 246,.int .i64 248,.int .i64 255,.int .i64 913,.int .i64 929,.int .i64 931,.int .i64 974,.int .i64 1024,.int .i64 1119]) (.int .i64 3)).run Tryz.prog w=.ok (.agg #[.int .i64 192,.int .i64 214]) w:=by kernel_rfl
theorem Zy3 (w:World):(Instr.index 335 (.agg #[.int .i64 48,.int .i64 57,.int .i64 65,.int .i64 90,.int .i64 97,.int .i64 122,.int .i64 192,.int .i64 214,.int .i64 216,.int .i64 246,.int .i64 248,.int .i64 255,.int .i64 913,.int .i64 929,.int .i64 931,.int .i64 974,.int .i64 1024,.int .i64 1119]) (.int .i64 4)).run Tryz.prog w=.ok (.agg #[.int .i64 216,.int .i64 246]) w:=by kernel_rfl
theorem Zy4 (w:World):(Instr.index 335 (.agg #[.int .i64 48,.int .i64 57,.int .i64 65,.int .i64 90,.int .i64 97,.int .i64 122,.int .i64 192,.int .i64 214,.int .i64 216,.int .i64 246,.int .i64 248,.int .i64 255,.int .i64 913,.int .i64 929,.int .i64 931,.int .i64 974,.int .i64 1024,.int .i64 1119]) (.int .i64 5)).run Tryz.prog w=.ok (.agg #[.int .i64 248,.int .i64 255]) w:=by kernel_rfl
theorem Zy5 (w:World):(Instr.index 335 (.agg #[.int .i64 48,.int .i64 57,.int .i64 65,.int .i64 90,.int .i64 97,.int .i64 122,.int .i64 192,.int .i64 214,.int .i64 216,.int .i64 246,.int .i64 248,.int .i64 255,.int .i64 913,.int .i64 929,.int .i64 931,.int .i64 974,.int .i64 1024,.int .i64 1119]) (.int .i64 6)).run Tryz.prog w=.ok (.agg #[.int .i64 913,.int .i64 929]) w:=by kernel_rfl
theorem Zy6 (w:World):(Instr.index 335 (.agg #[.int .i64 48,.int .i64 57,.int .i64 65,.int .i64 90,.int .i64 97,.int .i64 122,.int .i64 192,.int .i64 214,.int .i64 216,.int .i64 246,.int .i64 248,.int .i64 255,.int .i64 913,.int .i64 929,.int .i64 931,.int .i64 974,.int .i64 1024,.int .i64 1119]) (.int .i64 7)).run Tryz.prog w=.ok (.agg #[.int .i64 931,.int .i64 974]) w:=by kernel_rfl
theorem Zy7 (w:World):(Instr.index 335 (.agg #[.int .i64 48,.int .i64 57,.int .i64 65,.int .i64 90,.int .i64 97,.int .i64 122,.int .i64 192,.int .i64 214,.int .i64 216,.int .i64 246,.int .i64 248,.int .i64 255,.int .i64 913,.int .i64 929,.int .i64 931,.int .i64 974,.int .i64 1024,.int .i64 1119]) (.int .i64 8)).run Tryz.prog w=.ok (.agg #[.int .i64 1024,.int .i64 1119]) w:=by kernel_rfl
theorem ZyO (r:Int) (w:World):Calls Tryz.prog 270 #[.int .i64 r] w fun e w'=>e=.returned (.bool (ZyM r))∧Below w.heap.size w w':=by
 go_enter Tryz.func270,Tryz.ntmps270
 go_wp2
 go_loopw [15] (fun i wr=>∃ k:Nat,k≤9∧i=.int .i64 k∧Zyz k r∧Below w.heap.size w wr) (fun i _=>9 - (intOf i).toNat)
 case atStart=>exact ⟨0,by omega,rfl,ZyK r,Below.refl _ _⟩
 case round =>
  obtain ⟨k,hk,rfl,hno,hb⟩:=hrel
  have hsz:=hb.size
  have hk2:k=0∨k=1∨k=2∨k=3∨k=4∨k=5∨k=6∨k=7∨k=8∨k=9:=by omega
  rcases hk2 with rfl | rfl | rfl | rfl | rfl | rfl | rfl | rfl | rfl | rfl
  ·have hix:=ZyZ
   by_cases g:48≤r∧r≤57
   ·have e:=ZyQ r g
    obtain ⟨g0,g1⟩:=g
    have E:=Lib.hid e
    clear e hno
    go_wp2
    go_ret
    exact ⟨Ztd (by rw [E.out]),hb.alloc hsz _⟩
   ·have hno2:=ZyA r hno g
    clear hno
    by_cases g0:48≤r
    ·have g1:¬ r≤57:=by omega
     clear g
     go_wp2
     go_roundw
     case rel=>exact ⟨1,by omega,by go_num,hno2,hb.alloc hsz _⟩
     case measure=>simp [intOf]
    ·clear g
     go_wp2
     go_roundw
     case rel=>exact ⟨1,by omega,by go_num,hno2,hb.alloc hsz _⟩
     case measure=>simp [intOf]
  ·have hix:=Zy0
   by_cases g:65≤r∧r≤90
   ·have e:=ZyR r g
    obtain ⟨g0,g1⟩:=g
    have E:=Lib.hid e
    clear e hno
    go_wp2
    go_ret
    exact ⟨Ztd (by rw [E.out]),hb.alloc hsz _⟩
   ·have hno2:=ZyB r hno g
    clear hno
    by_cases g0:65≤r
    ·have g1:¬ r≤90:=by omega
     clear g
     go_wp2
     go_roundw
     case rel=>exact ⟨2,by omega,by go_num,hno2,hb.alloc hsz _⟩
     case measure=>simp [intOf]
    ·clear g
     go_wp2
     go_roundw
     case rel=>exact ⟨2,by omega,by go_num,hno2,hb.alloc hsz _⟩
     case measure=>simp [intOf]
  ·have hix:=Zy1
   by_cases g:97≤r∧r≤122
   ·have e:=ZyS r g
    obtain ⟨g0,g1⟩:=g
    have E:=Lib.hid e
    clear e hno
    go_wp2
    go_ret
    exact ⟨Ztd (by rw [E.out]),hb.alloc hsz _⟩
   ·have hno2:=ZyC r hno g
    clear hno
    by_cases g0:97≤r
    ·have g1:¬ r≤122:=by omega
     clear g
     go_wp2
     go_roundw
     case rel=>exact ⟨3,by omega,by go_num,hno2,hb.alloc hsz _⟩
     case measure=>simp [intOf]
    ·clear g
     go_wp2
     go_roundw
     case rel=>exact ⟨3,by omega,by go_num,hno2,hb.alloc hsz _⟩
     case measure=>simp [intOf]
  ·have hix:=Zy2
   by_cases g:192≤r∧r≤214
   ·have e:=ZyT r g
    obtain ⟨g0,g1⟩:=g
    have E:=Lib.hid e
    clear e hno
    go_wp2
    go_ret
    exact ⟨Ztd (by rw [E.out]),hb.alloc hsz _⟩
   ·have hno2:=ZyD r hno g
    clear hno
    by_cases g0:192≤r
    ·have g1:¬ r≤214:=by omega
     clear g
     go_wp2
     go_roundw
     case rel=>exact ⟨4,by omega,by go_num,hno2,hb.alloc hsz _⟩
     case measure=>simp [intOf]
    ·clear g
     go_wp2
     go_roundw
     case rel=>exact ⟨4,by omega,by go_num,hno2,hb.alloc hsz _⟩
     case measure=>simp [intOf]
  ·have hix:=Zy3
   by_cases g:216≤r∧r≤246
   ·have e:=ZyU r g
    obtain ⟨g0,g1⟩:=g
    have E:=Lib.hid e
    clear e hno
    go_wp2
    go_ret
    exact ⟨Ztd (by rw [E.out]),hb.alloc hsz _⟩
   ·have hno2:=ZyE r hno g
    clear hno
    by_cases g0:216≤r
    ·have g1:¬ r≤246:=by omega
     clear g
     go_wp2
     go_roundw
     case rel=>exact ⟨5,by omega,by go_num,hno2,hb.alloc hsz _⟩
     case measure=>simp [intOf]
    ·clear g
     go_wp2
     go_roundw
     case rel=>exact ⟨5,by omega,by go_num,hno2,hb.alloc hsz _⟩
     case measure=>simp [intOf]
  ·have hix:=Zy4
   by_cases g:248≤r∧r≤255
   ·have e:=ZyV r g
    obtain ⟨g0,g1⟩:=g
    have E:=Lib.hid e
    clear e hno
    go_wp2
    go_ret
    exact ⟨Ztd (by rw [E.out]),hb.alloc hsz _⟩
   ·have hno2:=ZyF r hno g
    clear hno
    by_cases g0:248≤r
    ·have g1:¬ r≤255:=by omega
     clear g
     go_wp2
     go_roundw
     case rel=>exact ⟨6,by omega,by go_num,hno2,hb.alloc hsz _⟩
     case measure=>simp [intOf]
    ·clear g
     go_wp2
     go_roundw
     case rel=>exact ⟨6,by omega,by go_num,hno2,hb.alloc hsz _⟩
     case measure=>simp [intOf]
  ·have hix:=Zy5
   by_cases g:913≤r∧r≤929
   ·have e:=ZyW r g
    obtain ⟨g0,g1⟩:=g
    have E:=Lib.hid e
    clear e hno
    go_wp2
    go_ret
    exact ⟨Ztd (by rw [E.out]),hb.alloc hsz _⟩
   ·have hno2:=ZyG r hno g
    clear hno
    by_cases g0:913≤r
    ·have g1:¬ r≤929:=by omega
     clear g
     go_wp2
     go_roundw
     case rel=>exact ⟨7,by omega,by go_num,hno2,hb.alloc hsz _⟩
     case measure=>simp [intOf]
    ·clear g
     go_wp2
     go_roundw
     case rel=>exact ⟨7,by omega,by go_num,hno2,hb.alloc hsz _⟩
     case measure=>simp [intOf]
  ·have hix:=Zy6
   by_cases g:931≤r∧r≤974
   ·have e:=ZyX r g
    obtain ⟨g0,g1⟩:=g
    have E:=Lib.hid e
    clear e hno
    go_wp2
    go_ret
    exact ⟨Ztd (by rw [E.out]),hb.alloc hsz _⟩
   ·have hno2:=ZyH r hno g
    clear hno
    by_cases g0:931≤r
    ·have g1:¬ r≤974:=by omega
     clear g
     go_wp2
     go_roundw
     case rel=>exact ⟨8,by omega,by go_num,hno2,hb.alloc hsz _⟩
     case measure=>simp [intOf]
    ·clear g
     go_wp2
     go_roundw
     case rel=>exact ⟨8,by omega,by go_num,hno2,hb.alloc hsz _⟩
     case measure=>simp [intOf]
  ·have hix:=Zy7
   by_cases g:1024≤r∧r≤1119
   ·have e:=ZyY r g
    obtain ⟨g0,g1⟩:=g
    have E:=Lib.hid e
    clear e hno
    go_wp2
    go_ret
    exact ⟨Ztd (by rw [E.out]),hb.alloc hsz _⟩
   ·have hno2:=ZyI r hno g
    clear hno
    by_cases g0:1024≤r
    ·have g1:¬ r≤1119:=by omega
     clear g
     go_wp2
     go_roundw
     case rel=>exact ⟨9,by omega,by go_num,hno2,hb.alloc hsz _⟩
     case measure=>simp [intOf]
    ·clear g
     go_wp2
     go_roundw
     case rel=>exact ⟨9,by omega,by go_num,hno2,hb.alloc hsz _⟩
     case measure=>simp [intOf]
  ·have e:=ZyJ r hno
   have E:=Lib.hid e
   clear e hno
   go_wp2
   go_ret
   exact ⟨Ztd (by rw [E.out]),hb⟩
end Go.Proofs.YtdijhifdjbnkfaaGreat.UM
namespace Go.Proofs.YtdijhifdjbnkfaaGreat.SM
open Go VM
open EM (Fld Ev ZeD FitE ZdV ZdX getE Zj3 Zj2 ZpA ZvV ZvY ZeE)
def blkS:Int→List Doc→List UInt8
 | _,[]=>[]
 | a,d::r=>(Zd8 (d.1 - a - 1).toNat++ZdV d.2)++blkS d.1 r
def endA:Int→List Doc→Int
 | a,[]=>a
 | _,d::r=>endA d.1 r
theorem Zhl:∀ (a:Int) (c:List Doc) (d:Doc),endA a (c++[d])=d.1
 | _,[],_=>rfl
 | _,x::r,d=>Zhl x.1 r d
theorem Zc4:∀ (a:Int) (c:List Doc) (d:Doc),blkS a (c++[d])=blkS a c++(Zd8 (d.1 - endA a c - 1).toNat++ZdV d.2)
 | a,[],d=>by simp [blkS,endA]
 | a,x::r,d=>by
   rw [List.cons_append,blkS,Zc4 x.1 r d,blkS,endA,List.append_assoc (Zd8 (x.1 - a - 1).toNat++ZdV x.2)]
theorem Zc3 (a:Int) {c:List Doc} {i:Nat} (h:i<c.length):blkS a (c.take (i+1))=blkS a (c.take i)++(Zd8 (c[i].1 - endA a (c.take i) - 1).toNat++ZdV c[i].2):=by
 rw [List.take_succ_eq_append_getElem h,Zc4]
theorem Zhk (a:Int) {c:List Doc} {i:Nat} (h:i<c.length):endA a (c.take (i+1))=c[i].1:=by
 rw [List.take_succ_eq_append_getElem h,Zhl]
theorem Zmz:∀ (a:Int) (c d:List Doc),isR a (c++d)=(isR a c&&isR (endA a c) d)
 | _,[],_=>by simp [isR,endA]
 | a,x::r,d=>by rw [List.cons_append,isR,Zmz x.1 r d,isR,endA,Bool.and_assoc]
theorem ZmF {a:Int} {c:List Doc} (h:isR a c=true) (i:Nat):isR a (c.take i)=true:=by
 have:=Zmz a (c.take i) (c.drop i)
 rw [List.take_append_drop,h] at this
 exact (Bool.and_eq_true _ _▸this.symm).1
theorem ZmB {a:Int} {c:List Doc} (h:isR a c=true) (i:Nat):isR (endA a (c.take i)) (c.drop i)=true:=by
 have:=Zmz a (c.take i) (c.drop i)
 rw [List.take_append_drop,h] at this
 exact (Bool.and_eq_true _ _▸this.symm).2
theorem ZmD {a:Int} {c:List Doc} (h:isR a c=true) {i:Nat} (hi:i<c.length):endA a (c.take i)<c[i].1∧c[i].1≤1099511627776∧ZeD c[i].2=0:=by
 have:=ZmB h i
 rw [ZmE hi,Bool.and_eq_true] at this
 exact Zpx.1 this.1
theorem Zhg:∀ {a:Int} {c:List Doc},isR a c=true→a≤endA a c
 | _,[],_=>Int.le_refl _
 | a,x::r,h=>by
   rw [isR,Bool.and_eq_true] at h
   have h1:=(Zpx.1 h.1).1
   have h2:=Zhg h.2
   rw [endA]
   omega
theorem Zhj:∀ {a:Int} {c:List Doc},isR a c=true→a≤1099511627776→endA a c≤1099511627776
 | _,[],_,h=>h
 | a,x::r,h,_=>by
   rw [isR,Bool.and_eq_true] at h
   rw [endA]
   exact Zhj h.2 (Zpx.1 h.1).2.1
theorem ZpG {x:Doc} (n:Nat) (h:ZeD x.2=0):(Zd8 n++ZdV x.2).length≤67000:=by
 obtain ⟨h4,h5⟩:=ZeE.1 h
 have b1:=Zea n
 have b2:=ZdX x.2
 have b3:=ZvY h5
 rw [List.length_append]
 omega
theorem Zc2:∀ {a:Int} {c:List Doc},isR a c=true→(blkS a c).length≤67000*c.length
 | _,[],_=>by simp [blkS]
 | a,x::r,h=>by
   rw [isR,Bool.and_eq_true] at h
   have h1:=ZpG (x:=x) (x.1 - a - 1).toNat (Zpx.1 h.1).2.2
   have h2:=Zc2 h.2
   rw [blkS,List.length_append,List.length_cons]
   omega
def ZeN (l:List Doc) (k:Nat):List Doc:=(l.drop (16*k)).take 16
theorem ZeO (l:List Doc) (k:Nat):(ZeN l k).length≤16:=by unfold ZeN;rw [List.length_take];omega
theorem Zhi (l:List Doc):∀ {i:Nat},i≤l.length→endA 0 (l.take i)=Zm9 l i
 | 0,_=>rfl
 | i+1,h=>by rw [Zhk 0 (by omega),Zna (by omega)]
theorem Zw4 (l:List Doc) (i m:Nat):endA (endA 0 (l.take i)) ((l.drop i).take m)=endA 0 (l.take (i+m)):=by
 have e:∀ (a:Int) (c d:List Doc),endA a (c++d)=endA (endA a c) d:=fun a c=>by
  induction c generalizing a with
  | nil=>intro d;rfl
  | cons x r ih=>intro d;exact ih x.1 d
 rw [← e,List.take_add]
theorem Zdd {l:List Doc} (i:Nat):∀ {m:Nat},i+m≤l.length→blkS (Zm9 l i) ((l.drop i).take m)=Zsj l i (i+m)
 | 0,_=>by rw [List.take_zero,blkS,Nat.add_zero,Zsq]
 | m+1,h=>by
   have hm:m<(l.drop i).length:=by rw [List.length_drop];omega
   rw [Zc3 _ hm,Zdd i (by omega),show i+(m+1)=(i+m)+1 by omega,Zsp (by omega),ZpE (by omega),← Zhi l (by omega),Zw4,Zhi l (by omega),List.getElem_drop]
theorem ZeY {l:List Doc} {k:Nat} (h:16*k≤l.length):ZeN l k=(l.drop (16*k)).take (endS l k - 16*k):=by
 unfold ZeN endS
 by_cases h2:16*k+16≤l.length
 ·rw [Nat.min_eq_left h2,show 16*k+16 - 16*k=16 by omega]
 ·rw [Nat.min_eq_right (by omega),List.take_of_length_le (by rw [List.length_drop];omega),List.take_of_length_le (by rw [List.length_drop];exact Nat.le_refl _)]
theorem ZeV {l:List Doc} {k:Nat} (h:16*k≤l.length):(ZeN l k).length=endS l k - 16*k:=by
 rw [ZeY h,List.length_take,List.length_drop]
 unfold endS
 omega
theorem ZeQ {l:List Doc} {k:Nat} (h:16*k≤l.length):blkS (Zm9 l (16*k)) (ZeN l k)=Zsj l (16*k) (endS l k):=by
 have h1:16*k≤endS l k:=by unfold endS;omega
 have h2:endS l k≤l.length:=by unfold endS;omega
 rw [ZeY h,Zdd _ (by omega),show 16*k+(endS l k - 16*k)=endS l k by omega]
theorem ZeR {l:List Doc} {k:Nat} (h:16*k≤l.length):endA (Zm9 l (16*k)) (ZeN l k)=Zm9 l (endS l k):=by
 have h1:16*k≤endS l k:=by unfold endS;omega
 have h2:endS l k≤l.length:=by unfold endS;omega
 rw [ZeY h,← Zhi l h,Zw4,show 16*k+(endS l k - 16*k)=endS l k by omega,Zhi l h2]
theorem ZeW {l:List Doc} (h:isR 0 l=true) {k:Nat} (hk:16*k≤l.length):isR (Zm9 l (16*k)) (ZeN l k)=true:=by
 have:=ZmF (ZmB h (16*k)) 16
 rw [Zhi l hk] at this
 exact this
theorem ZeT {l:List Doc} (h:FitS l) (k:Nat):FitS (ZeN l k):=fun d hd=>h d (List.mem_of_mem_drop (List.mem_of_mem_take hd))
end Go.Proofs.YtdijhifdjbnkfaaGreat.SM
