import Derived.Test.YtdijhifdjbnkfaaGreatZD1
set_option maxRecDepth 100000
set_option maxHeartbeats 8000000
set_option linter.unusedVariables false
set_option linter.unusedSimpArgs false
namespace Go.Proofs.YtdijhifdjbnkfaaGreat.CM
def step (s:Nat):Nat:=if s%2=1 then s / 2 ^^^ 3988292384 else s / 2
def Zwp:Nat→Nat→Nat
 | 0,s=>s
 | k+1,s=>Zwp k (step s)
def onB (s b:Nat):Nat:=Zwp 8 (s ^^^ b)
def run (s:Nat) (l:List UInt8):Nat:=l.foldl (fun s b=>onB s b.toNat) s
def notB (s:Nat):Nat:=4294967295 - s
def ZoH (s:Nat) (l:List UInt8):Nat:=notB (run (notB s) l)
def sumL (l:List UInt8):Nat:=ZoH 0 l
theorem ZzH (a b:Nat):(a ^^^ b) / 2=a / 2 ^^^ b / 2:=by
 have h:=Nat.shiftRight_xor_distrib (a:=a) (b:=b) (i:=1)
 rw [Nat.shiftRight_eq_div_pow,Nat.shiftRight_eq_div_pow,Nat.shiftRight_eq_div_pow] at h
 exact h
theorem ZzJ (a b:Nat):(a ^^^ b)%2=(a%2+b%2)%2:=by
 have h:=Nat.xor_mod_two_pow (a:=a) (b:=b) (n:=1)
 have ha:a%2=0∨a%2=1:=by omega
 have hb:b%2=0∨b%2=1:=by omega
 rw [show (2:Nat)^1=2 from rfl] at h
 rw [h]
 rcases ha with ha | ha<;>rcases hb with hb | hb<;>rw [ha,hb]<;>rfl
theorem xor4 (a b p:Nat):(a ^^^ p) ^^^ (b ^^^ p)=a ^^^ b:=by
 rw [Nat.xor_assoc,Nat.xor_comm b p,← Nat.xor_assoc p,Nat.xor_self,Nat.zero_xor]
theorem Zwo (a b:Nat):step (a ^^^ b)=step a ^^^ step b:=by
 unfold step
 rw [ZzJ,ZzH]
 by_cases ha:a%2=1<;>by_cases hb:b%2=1
 ·rw [if_pos ha,if_pos hb,if_neg (by omega),xor4]
 ·rw [if_pos ha,if_neg hb,if_pos (by omega),Nat.xor_assoc,Nat.xor_assoc,Nat.xor_comm 3988292384]
 ·rw [if_neg ha,if_pos hb,if_pos (by omega),Nat.xor_assoc]
 ·rw [if_neg ha,if_neg hb,if_neg (by omega)]
theorem Zwm {a:Nat} (h:a<4294967296):step a<4294967296:=by
 unfold step
 split
 ·exact Nat.xor_lt_two_pow (n:=32) (by omega) (by omega)
 ·omega
theorem Zwl (x:Nat):step (2*x)=x:=by
 unfold step
 rw [if_neg (by omega)]
 omega
theorem ZwA:∀ (k a b:Nat),Zwp k (a ^^^ b)=Zwp k a ^^^ Zwp k b
 | 0,_,_=>rfl
 | k+1,a,b=>by rw [Zwp,Zwp,Zwp,Zwo,ZwA k]
theorem Zwx:∀ (k:Nat) {a:Nat},a<4294967296→Zwp k a<4294967296
 | 0,_,h=>h
 | k+1,_,h=>Zwx k (Zwm h)
theorem Zwz:∀ k,Zwp k 0=0
 | 0=>rfl
 | k+1=>by rw [Zwp,show step 0=0 from by decide,Zwz k]
theorem Zww (x:Nat):Zwp 8 (256*x)=x:=by
 have e:256*x=2*(2*(2*(2*(2*(2*(2*(2*x))))))):=by omega
 rw [e]
 simp only [Zwp,Zwl]
theorem ZpC {s b:Nat} (hs:s<4294967296) (hb:b<256):onB s b<4294967296:=Zwx 8 (Nat.xor_lt_two_pow (n:=32) hs (by omega))
theorem ZuS (s:Nat) (b:UInt8) (l:List UInt8):run s (b::l)=run (onB s b.toNat) l:=rfl
theorem ZuR (s:Nat) (l m:List UInt8):run s (l++m)=run (run s l) m:=by unfold run;rw [List.foldl_append]
theorem ZuV:∀ (l:List UInt8) {s:Nat},s<4294967296→run s l<4294967296
 | [],_,h=>h
 | b::l,_,h=>by rw [ZuS];exact ZuV l (ZpC h b.toNat_lt)
theorem ZoV (s:Nat):notB s<4294967296:=by unfold notB;omega
theorem ZoW {s:Nat} (h:s<4294967296):notB (notB s)=s:=by unfold notB;omega
theorem ZoK (s:Nat) (l:List UInt8):ZoH s l<4294967296:=ZoV _
theorem ZoI (s:Nat) (l m:List UInt8):ZoH s (l++m)=ZoH (ZoH s l) m:=by
 unfold ZoH
 rw [ZuR,ZoW (ZuV l (ZoV s))]
end Go.Proofs.YtdijhifdjbnkfaaGreat.CM
namespace Go.Proofs.YtdijhifdjbnkfaaGreat.BM
open Go
def Zwj (h:Int) (c:UInt8):Int:=IntKind.u64.wrap (bits .xor .u64 h (c.toNat:Int)*1099511628211)
def numL (l:List UInt8):Int:=l.foldl Zwj 14695981039346656037
theorem wrap_u64 (x:Int):IntKind.u64.wrap x=x%18446744073709551616:=by
 simp [IntKind.wrap,IntKind.signed,IntKind.bits]
theorem Zo3 (l:List UInt8):0≤numL l∧numL l<18446744073709551616:=by
 unfold numL
 rcases List.eq_nil_or_concat l with rfl | ⟨l',c,rfl⟩
 ·simp
 ·rw [List.concat_eq_append,List.foldl_append]
  simp only [List.foldl_cons,List.foldl_nil,Zwj,wrap_u64]
  omega
theorem Zo0 {l:List UInt8} {k:Nat} (hk:k<l.length):numL (l.take (k+1))=Zwj (numL (l.take k)) l[k]:=by
 unfold numL
 rw [List.take_succ_eq_append_getElem hk,List.foldl_append]
 rfl
def ZiJ (l:List UInt8):Nat:=(numL l).toNat%4294967296
def ZkZ (l:List UInt8):Nat:=(numL l).toNat / 4294967296
def Zvv (l:List UInt8):Nat:=if ZkZ l%2=0 then ZkZ l+1 else ZkZ l
theorem ZiK (l:List UInt8):ZiJ l<4294967296:=Nat.mod_lt _ (by decide)
theorem Zk0 (l:List UInt8):ZkZ l<4294967296:=by have:=(Zo3 l).2;unfold ZkZ;omega
theorem Zvw (l:List UInt8):Zvv l<4294967296:=by have:=Zk0 l;unfold Zvv;split<;>omega
def Zq3 (m:Nat) (l:List UInt8) (i:Nat):Nat:=(ZiJ l+i*Zvv l)%m
theorem Zq4 {m:Nat} (l:List UInt8) (i:Nat) (h:0<m):Zq3 m l i<m:=Nat.mod_lt _ h
def bitB (c:UInt8) (j:Nat):Bool:=c.toNat / 2^j%2 == 1
def putB (c:UInt8) (j:Nat):UInt8:=if bitB c j then c else UInt8.ofNat (c.toNat+2^j)
theorem Zr1:∀ c:Fin 256,∀ j:Fin 8,∀ i:Fin 8,bitB (putB (UInt8.ofNat c.val) j.val) i.val=(bitB (UInt8.ofNat c.val) i.val||i == j):=by decide +kernel
theorem ZcW (c:UInt8) {i j:Nat} (hi:i<8) (hj:j<8):bitB (putB c j) i=(bitB c i||i == j):=by
 have:=Zr1 ⟨c.toNat,c.toNat_lt⟩ ⟨j,hj⟩ ⟨i,hi⟩
 have e:UInt8.ofNat c.toNat=c:=by simp
 dsimp only at this
 rw [e] at this
 rw [this]
 congr 1
 by_cases h:i=j
 ·subst h;simp
 ·rw [beq_eq_false_iff_ne.2 h,beq_eq_false_iff_ne]
  intro h2
  exact h (Fin.mk.inj h2)
def hasL (L:List UInt8) (k:Nat):Bool:=bitB (L.getD (k / 8) 0) (k%8)
def putL (L:List UInt8) (k:Nat):List UInt8:=L.set (k / 8) (putB (L.getD (k / 8) 0) (k%8))
theorem Zr0 (L:List UInt8) (k:Nat):(putL L k).length=L.length:=by simp [putL]
theorem Zk5 (L:List UInt8) {k:Nat} (i:Nat) (hk:k<8*L.length):hasL (putL L k) i=(hasL L i||i == k):=by
 unfold hasL putL
 by_cases h:k / 8=i / 8
 ·rw [← h]
  have hl:k / 8<L.length:=by omega
  have e:(L.set (k / 8) (putB (L.getD (k / 8) 0) (k%8))).getD (k / 8) 0=putB (L.getD (k / 8) 0) (k%8):=by simp [List.getD,hl]
  rw [e]
  rw [ZcW _ (Nat.mod_lt _ (by decide)) (Nat.mod_lt _ (by decide))]
  congr 1
  by_cases e:i=k
  ·subst e;simp
  ·have:i%8≠k%8:=by omega
   rw [beq_eq_false_iff_ne.2 this,beq_eq_false_iff_ne.2 e]
 ·have e:i≠k:=by rintro rfl;exact h rfl
  have e2:(L.set (k / 8) (putB (L.getD (k / 8) 0) (k%8))).getD (i / 8) 0=L.getD (i / 8) 0:=by simp only [List.getD,List.getElem?_set_ne h]
  rw [e2,beq_eq_false_iff_ne.2 e,Bool.or_false]
def put1 (st:List UInt8×Nat) (k:Nat):List UInt8×Nat:=if hasL st.1 k then st else (putL st.1 k,st.2+1)
theorem ZrX (st:List UInt8×Nat) (k:Nat):(put1 st k).1.length=st.1.length:=by unfold put1;split<;>simp [Zr0]
def addI (L:List UInt8) (s:List UInt8) (i:Nat):List UInt8×Nat:=(List.range i).foldl (fun st i=>put1 st (Zq3 (8*L.length) s i)) (L,0)
theorem ZbT (L s:List UInt8) (i:Nat):addI L s (i+1)=put1 (addI L s i) (Zq3 (8*L.length) s i):=by
 unfold addI
 rw [List.range_succ,List.foldl_append]
 rfl
theorem ZbS (L s:List UInt8) (i:Nat):(addI L s i).1.length=L.length:=by
 induction i with
 | zero=>rfl
 | succ i ih=>rw [ZbT,ZrX,ih]
theorem ZrU (st:List UInt8×Nat) (k:Nat):(put1 st k).2≤st.2+1:=by unfold put1;split<;>simp
theorem ZbP (L s:List UInt8) (i:Nat):(addI L s i).2≤i:=by
 induction i with
 | zero=>exact Nat.le_refl _
 | succ i ih=>rw [ZbT];have:=ZrU (addI L s i) (Zq3 (8*L.length) s i);omega
def addT (L:List UInt8) (s:List UInt8):List UInt8×Nat:=addI L s 4
theorem Zb3 (L s:List UInt8):(addT L s).1.length=L.length:=ZbS L s 4
theorem Zb2 (L s:List UInt8):(addT L s).2≤4:=ZbP L s 4
def addA (L:List UInt8) (ss:List (List UInt8)):List UInt8×Nat:=ss.foldl (fun st s=>((addT st.1 s).1,st.2+(addT st.1 s).2)) (L,0)
theorem ZbO {L:List UInt8} {ss:List (List UInt8)} {k:Nat} (hk:k<ss.length):addA L (ss.take (k+1))=((addT (addA L (ss.take k)).1 ss[k]).1,(addA L (ss.take k)).2+(addT (addA L (ss.take k)).1 ss[k]).2):=by
 unfold addA
 rw [List.take_succ_eq_append_getElem hk,List.foldl_append]
 rfl
theorem ZbM (L:List UInt8) (ss:List (List UInt8)) (k:Nat):(addA L (ss.take k)).1.length=L.length:=by
 induction k with
 | zero=>rfl
 | succ k ih =>
   by_cases hk:k<ss.length
   ·rw [ZbO hk,Zb3,ih]
   ·rw [List.take_of_length_le (by omega)] at ih ⊢
    exact ih
theorem ZbK (L:List UInt8) (ss:List (List UInt8)) (k:Nat):(addA L (ss.take k)).2≤4*k:=by
 induction k with
 | zero=>exact Nat.le_refl _
 | succ k ih =>
   by_cases hk:k<ss.length
   ·rw [ZbO hk]
    have:=Zb2 (addA L (ss.take k)).1 ss[k]
    dsimp only
    omega
   ·rw [List.take_of_length_le (by omega)] at ih ⊢
    omega
theorem ZbJ (L:List UInt8) (ss:List (List UInt8)):(addA L ss).1.length=L.length:=by
 have:=ZbM L ss ss.length
 rwa [List.take_length] at this
def mayI (L s:List UInt8) (i:Nat):Bool:=(List.range i).all fun i=>hasL L (Zq3 (8*L.length) s i)
theorem Zoh (L s:List UInt8) (i:Nat):mayI L s (i+1)=(mayI L s i&&hasL L (Zq3 (8*L.length) s i)):=by
 unfold mayI
 rw [List.range_succ,List.all_append]
 simp
def mayL (L s:List UInt8):Bool:=mayI L s 4
theorem Zog {L s:List UInt8} {i:Nat} (hi:i<4) (h:hasL L (Zq3 (8*L.length) s i)=false):mayL L s=false:=by
 unfold mayL mayI
 rw [List.all_eq_false]
 exact ⟨i,by simpa using hi,by simp [h]⟩
theorem ZrW {st:List UInt8×Nat} {k i:Nat} (hk:k<8*st.1.length) (h:hasL st.1 i=true):hasL (put1 st k).1 i=true:=by
 unfold put1
 split
 ·exact h
 ·show hasL (putL st.1 k) i=true
  rw [Zk5 _ _ hk,h,Bool.true_or]
theorem ZrV {st:List UInt8×Nat} {k:Nat} (hk:k<8*st.1.length):hasL (put1 st k).1 k=true:=by
 unfold put1
 split
 ·assumption
 ·show hasL (putL st.1 k) k=true
  rw [Zk5 _ _ hk]
  simp
theorem ZbR {L s:List UInt8} (hL:0<L.length) {k:Nat} (i:Nat) (h:hasL L k=true):hasL (addI L s i).1 k=true:=by
 induction i with
 | zero=>exact h
 | succ i ih =>
   rw [ZbT]
   exact ZrW (by rw [ZbS];exact Zq4 _ _ (by omega)) ih
theorem ZbQ {L s:List UInt8} (hL:0<L.length) {j:Nat}:∀ i,j<i→hasL (addI L s i).1 (Zq3 (8*L.length) s j)=true
 | 0,h=>by omega
 | i+1,h=>by
   rw [ZbT]
   have hp:Zq3 (8*L.length) s i<8*(addI L s i).1.length:=by rw [ZbS];exact Zq4 _ _ (by omega)
   by_cases e:j=i
   ·subst e
    exact ZrV hp
   ·exact ZrW hp (ZbQ hL i (by omega))
theorem Zol {L s t:List UInt8} (hL:0<L.length) (h:mayL L t=true):mayL (addT L s).1 t=true:=by
 unfold mayL mayI at *
 rw [List.all_eq_true] at *
 intro i hi
 rw [Zb3]
 exact ZbR hL 4 (h i hi)
theorem Zok {L s:List UInt8} (hL:0<L.length):mayL (addT L s).1 s=true:=by
 unfold mayL mayI
 rw [List.all_eq_true]
 intro i hi
 rw [Zb3]
 exact ZbQ hL 4 (by simpa using hi)
def Zt2 (n:Nat):Nat:=(min (max (10*n) 64) 1048576+7) / 8
theorem Zt3 (n:Nat):8≤Zt2 n∧Zt2 n≤131072:=by unfold Zt2;omega
def newL (n:Nat):List UInt8:=List.replicate (Zt2 n) 0
theorem ZoC (n:Nat):(newL n).length=Zt2 n:=by simp [newL]
end Go.Proofs.YtdijhifdjbnkfaaGreat.BM
namespace Go.Proofs.YtdijhifdjbnkfaaGreat.MM
open Go.RowKit
theorem Zl5:(Tryz.prog.info? 3).map (fun i=>(i.zero,i.size,i.bytes))=some (some (.int .i64 0),1,8):=by kernel_rfl
def IRow (w:World) (v:Value) (zs:List Int):Prop:=Row w v (zs.map (Value.int .i64))
def OwnI (B:Nat) (w:World) (v:Value) (zs:List Int):Prop:=w.ownsRow B 3 1 v zs.length (zs.map (Value.int .i64))
theorem OwnI.irow {B:Nat} {w:World} {v:Value} {zs:List Int} (h:OwnI B w v zs):IRow w v zs:=Row.of_own h
theorem OwnI.keep {w w':World} {B:Nat} {v:Value} {zs:List Int} (h:OwnI B w v zs) (hb:Below w.heap.size w w'):OwnI B w' v zs:=Zqe (B:=0) h hb
theorem IRow.below {w w':World} {v:Value} {zs:List Int} (h:IRow w v zs) (hb:Below w.heap.size w w'):IRow w' v zs:=Row.below (B:=0) h hb
theorem IRow.shape {w:World} {v:Value} {zs:List Int} (h:IRow w v zs):∃ p cap,v=.slice p zs.length cap∧zs.length≤cap∧cap≤maxLen:=by
 obtain ⟨p,cap,hv,h1,h2,_,_⟩:=h
 rw [List.length_map] at hv h1
 exact ⟨p,cap,hv,h1,h2⟩
theorem IRow.at_ {w:World} {p:Option Addr} {n cap:Nat} {zs:List Int} (h:IRow w (.slice p n cap) zs) {k:Nat} (hk:k<zs.length) :
  ∃ b off,p=some ⟨b,off,none⟩∧b<w.heap.size∧w.cell? ⟨b,off+k,none⟩=some (.int .i64 (zs.getD k 0)):=by
 obtain ⟨p',cap',hv,_,_,_,h⟩:=h
 simp only [Value.slice.injEq] at hv
 obtain ⟨rfl,_,_⟩:=hv
 rcases h with h | ⟨b,off,hp,hlt,hc⟩
 ·have:zs=[]:=List.map_eq_nil_iff.1 h
  subst this
  simp at hk
 ·exact ⟨b,off,hp,hlt,hc k _ (by simp [List.getD,hk])⟩
theorem IRow.take {w:World} {p:Option Addr} {n cap:Nat} {zs:List Int} (h:IRow w (.slice p n cap) zs) (k:Nat) (hk:k≤n):IRow w (.slice p k cap) (zs.take k):=by
 have:=Zbm.take h k hk
 rw [← List.map_take] at this
 exact this
theorem Zzq {w:World} {ops:Array Oper} {rest:List Oper} {o:Oper} {a:Act} {Q:Exit→Act→World→Prop} (hgd:o.guard=none) (s x:Operand)
  (ho:o.op=.call { callee:=.builtin .append,args:=#[s,x],argTypes:=#[69,69] }) (B:Nat) (v:Value) (zs:List Int) (w0:World) (z:Int) (hw:w=w0.alloc (.cells #[.int .i64 z] 3)) (hs:a.eval s=v) (hown:OwnI B w0 v zs)
  (hx:a.eval x=.slice (some ⟨w0.heap.size,0,none⟩) 1 1) (hlen:zs.length≤4398046511104) (hbase:B≤w0.heap.size)
  (h:∀ v' w',OwnI B w' v' (zs++[z])→Below B w0 w'→wpList Tryz.prog ops Q rest (a.put o.dst v') w'):wpList Tryz.prog ops Q (o::rest) a w:=by
 subst hw
 obtain ⟨i0,hi,hz0,hz1,hz2⟩:=info_parts Zl5
 have hlo:∀ k,v.ownBlock=some k→B≤k:=fun k hk=>(World.ownsRow.lt hown k hk).1
 refine wpList_append_own _ hgd s x 69 ho B 3 i0 (.int .i64 0) 1 8 Tryz.underlying69 hi hz0 hz1 hz2 rfl (by decide) v zs.length _ hs (World.ownsRow.alloc hown _) ⟨w0.heap.size,0,none⟩ 1 1 [.int .i64 z] hx rfl (Zeo _ _ _) (Zmf _ _)
  (by unfold maxLen;omega) (by omega) (by simp;omega) (fun v' w' h1 hg _=>h v' w' ?_ (ZcL (Below.refl B w0) hbase hlo hg))
 unfold OwnI
 rw [List.length_append,List.map_append]
 exact h1
end Go.Proofs.YtdijhifdjbnkfaaGreat.MM
