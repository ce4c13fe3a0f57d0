import Derived.Test.YtidhgicajlaafaaGreatZC19
set_option maxRecDepth 100000
set_option maxHeartbeats 8000000
set_option linter.unusedVariables false
set_option linter.unusedSimpArgs false
namespace Go.Proofs.YtidhgicajlaafaaGreat.IM
open Go Go.RowKit MM Go.Maps
abbrev R0:Value→Option (DataW Value×List MemPlace):=fun v=>some (.held v,[])
def InI (n:Int):Prop := -9223372036854775808≤n∧n≤9223372036854775807
theorem intKeyed:Keyed Tryz.prog 3:=int_keyed Tryz.underlying3
def MapI (w:World) (mb m:Nat) (F:Int→Option Value):Prop :=
 ∃ D:DataW Value,w.ownsMap Tryz.prog 3 R0 mb m D∧Maps.size D=m∧∀ n,Maps.has D (.int .i64 n)=(F n).isSome∧∀ v,F n=some v→∀ z,D.atKey (.int .i64 n) z=.held v
theorem keyI (n:Int) (hn:InI n):keyOf Tryz.prog 3 (.int .i64 n)=some (.int .i64 n):=keyOf_int_mk Tryz.underlying3 (by unfold InI at hn;simp only [Lit.wf,Bool.and_eq_true,decide_eq_true_eq];exact hn)
theorem MapI.lt {w:World} {mb m:Nat} {F:Int→Option Value} (h:MapI w mb m F):mb<w.heap.size:=by
 obtain ⟨D,hD,_⟩:=h
 exact hD.lt
theorem owns_kep {S:Nat→Prop} {w w':World} {R:Value→Option (DataW Value×List MemPlace)} {mb m:Nat} {D:DataW Value} (h:w.ownsMap Tryz.prog 3 R mb m D) (hk:Kep S w w') (hS:S mb):w'.ownsMap Tryz.prog 3 R mb m D:=by
 have hlt:=h.lt
 obtain ⟨es,clock,hb,F,hs,hD⟩:=h
 exact ⟨es,clock,(hk.block mb hlt hS).trans hb,F,hs,hD⟩
theorem MapI.kep {S:Nat→Prop} {w w':World} {mb m:Nat} {F:Int→Option Value} (h:MapI w mb m F) (hk:Kep S w w') (hS:S mb):MapI w' mb m F:=by
 obtain ⟨D,hD,h2⟩:=h
 exact ⟨D,owns_kep hD hk hS,h2⟩
theorem MapI.below {w w':World} {mb m:Nat} {F:Int→Option Value} (h:MapI w mb m F) (hb:Below w.heap.size w w'):MapI w' mb m F:=h.kep (kep_below (fun _=>True) hb) trivial
theorem MapI.made (w:World):MapI (w.alloc (.map #[] 0)) w.heap.size 0 (fun _=>none) :=
 ⟨.map [],World.ownsMap_made _ _ _ _,rfl,fun n=>⟨rfl,fun v h=>by cases h⟩⟩
theorem MapI.look {T E:TypeId} (hT:Tryz.prog.underlying T=some (.map 3 E)) {Z:Value} (hZ:∀ w,(zeroValue E).run Tryz.prog w=.ok Z w) {w:World} {mb m:Nat} {F:Int→Option Value} (h:MapI w mb m F) (n:Int) (hn:InI n) :
  (Instr.lookup T (.map (some mb)) (.int .i64 n) false).run Tryz.prog w=.ok ((F n).getD Z) w:=by
 obtain ⟨D,hD,_,hF⟩:=h
 obtain ⟨v,ps,hrun,hv⟩:=World.ownsMap.lookup hD intKeyed hT (hZ w) (zd:=.held Z) (zp:=[]) rfl (keyI n hn)
 obtain ⟨h1,h2⟩:=hF n
 have hv:DataW.held v=D.atKey (.int .i64 n) (.held Z):=by
  simp only [R0,Option.some.injEq,Prod.mk.injEq] at hv
  exact hv.1
 rw [hrun]
 cases hf:F n with
 | none =>
   rw [hf] at h1
   rw [atKey_of_not_has h1] at hv
   have hv:=DataW.held.inj hv
   rw [hv]
   rfl
 | some u =>
   rw [h2 u hf] at hv
   have hv:=DataW.held.inj hv
   rw [hv]
   rfl
theorem MapI.len {T E:TypeId} (hT:Tryz.prog.underlying T=some (.map 3 E)) {w:World} {mb m:Nat} {F:Int→Option Value} (h:MapI w mb m F) (ty:TypeId):(Builtin.len_ #[T] ty #[.map (some mb)]).run Tryz.prog w=.ok (.int .i64 (m:Int)) w:=by
 obtain ⟨D,hD,hm,_⟩:=h
 have:=hD.len hT ty
 rw [hm] at this
 exact this
theorem own_tight {w:World} {mb m:Nat} {D:DataW Value} (h:w.ownsMap Tryz.prog 3 R0 mb m D):w.ownsMap Tryz.prog 3 R0 mb (Maps.size D) D:=by
 obtain ⟨es,c,hb,F,hs,rfl⟩:=h
 exact ⟨es,c,hb,F,by simp [Maps.size,length_sorted],rfl⟩
theorem key_ne {n k:Int} (h:n≠k):(Lit.int .i64 n)≠Lit.int .i64 k:=fun e=>h (by injection e)
theorem MapI.put_of {w':World} {mb m j:Nat} {F:Int→Option Value} {D:DataW Value} {n:Int} {v:Value} (hT:Tidy D) (hm:Maps.size D=m) (hF:∀ n,Maps.has D (.int .i64 n)=(F n).isSome∧∀ v,F n=some v→∀ z,D.atKey (.int .i64 n) z=.held v)
  (h:w'.ownsMap Tryz.prog 3 R0 mb j (D.put (.int .i64 n) (.held v))):MapI w' mb (if (F n).isSome then m else m+1) (fun k=>if k=n then some v else F k):=by
 have hk:WideAt.IsKeyLit (.int .i64 n):=trivial
 have hs:Maps.size (D.put (.int .i64 n) (.held v))=if (F n).isSome then m else m+1:=by rw [size_put hT,(hF n).1,hm]
 refine ⟨_,hs▸own_tight h,hs,fun k => ?_⟩
 show Maps.has (D.put (.int .i64 n) (.held v)) (.int .i64 k)=(if k=n then some v else F k).isSome∧∀ u,(if k=n then some v else F k)=some u→∀ z,(D.put (.int .i64 n) (.held v)).atKey (.int .i64 k) z=.held u
 by_cases e:k=n
 ·subst e
  rw [has_put_same hT.isMap hk]
  refine ⟨by simp,fun u hu z => ?_⟩
  rw [if_pos rfl] at hu
  have hu:=Option.some.inj hu
  rw [atKey_put_same hT.isMap hk,hu]
 ·rw [has_put_other (key_ne e),if_neg e]
  refine ⟨(hF k).1,fun u hu z => ?_⟩
  rw [atKey_put_other (key_ne e)]
  exact (hF k).2 u hu z
theorem turned_kep {w w':World} {mb:Nat} (h:w.mapTurned w' mb):Kep (fun k=>k≠mb) w w':=kep_grown h.grown (fun k e hk=>hk (by injection e with e;exact e.symm))
theorem MapI.store {T E:TypeId} (hT:Tryz.prog.underlying T=some (.map 3 E)) {w:World} {mb m:Nat} {F:Int→Option Value} (h:MapI w mb m F) (n:Int) (v:Value) (hn:InI n) (hm:m<maxLen) :
  ∃ w',(Instr.mapUpdate T (.map (some mb)) (.int .i64 n) v).run Tryz.prog w=.ok () w'∧MapI w' mb (if (F n).isSome then m else m+1) (fun k=>if k=n then some v else F k)∧Kep (fun k=>k≠mb) w w':=by
 obtain ⟨D,hD,hs,hF⟩:=h
 obtain ⟨w',hrun,h1,h2⟩:=World.ownsMap.store hD intKeyed hT hm (keyI n hn) (val:=v) (d:=.held v) (ps:=[]) rfl
 exact ⟨w',hrun,MapI.put_of (hD.tidy intKeyed) hs hF h1,turned_kep h2⟩
theorem wp_mapI_store {T E:TypeId} (hT:Tryz.prog.underlying T=some (.map 3 E)) {w:World} {o:Oper} {a:Act} {K:Act→World→Prop} {Q:Exit→Act→World→Prop} (x y z:Operand) (hop:o.op=Op.mapUpdate T x y z) (mb m:Nat) (F:Int→Option Value) (hx:a.eval x=.map (some mb)) (h:MapI w mb m F) (hm:m<maxLen)
  (n:Int) (v:Value) (hy:a.eval y=.int .i64 n) (hz:a.eval z=v) (hn:InI n)
  (hK:∀ w',MapI w' mb (if (F n).isSome then m else m+1) (fun k=>if k=n then some v else F k)→Kep (fun k=>k≠mb) w w'→K (a.put o.dst undef) w'):o.wp Tryz.prog a w K Q:=by
 obtain ⟨w',hrun,h1,h2⟩:=MapI.store hT h n v hn hm
 unfold Oper.wp
 simp [execOp,hop,hx,hy,hz,hrun,Result.andThen]
 exact hK w' h1 h2
end Go.Proofs.YtidhgicajlaafaaGreat.IM
namespace Go.Proofs.YtidhgicajlaafaaGreat.TK
open Go.RowKit MM
open UM (lowerZ wordZ encL runesL)
theorem cell_new2 (w:World) (x y:Value) (t:TypeId):∀ j u,[x,y][j]? = some u→(w.alloc (.cells #[x,y] t)).cell? ((⟨w.heap.size,0,none⟩:Addr).add j)=some u:=by
 intro j u hj
 match j,hj with
 | 0,hj=>simp at hj;subst hj;simp [Addr.add]
 | 1,hj=>simp at hj;subst hj;simp [Addr.add]
 | (j+2),hj=>simp at hj
theorem wpList_append_tok {w:World} {ops:Array Oper} {rest:List Oper} {o:Oper} {a:Act} {Q:Exit→Act→World→Prop} (hgd:o.guard=none) (s x:Operand)
  (ho:o.op=.call { callee:=.builtin .append,args:=#[s,x],argTypes:=#[110,110] }) (B:Nat) (v:Value) (ts:List (List UInt8×Int)) (w0:World) (z:List UInt8) (p:Int) (hw:w=w0.alloc (.cells #[.string ⟨z.toArray⟩,.int .i64 p] 114)) (hs:a.eval s=v) (hown:OwnK B w0 v ts)
  (hx:a.eval x=.slice (some ⟨w0.heap.size,0,none⟩) 1 1) (hlen:ts.length≤1000000000000) (hbase:B≤w0.heap.size)
  (h:∀ v' w',OwnK B w' v' (ts++[(z,p)])→Below B w0 w'→wpList Tryz.prog ops Q rest (a.put o.dst v') w'):wpList Tryz.prog ops Q (o::rest) a w:=by
 subst hw
 obtain ⟨i0,hi,hz0,hz1,hz2⟩:=info_parts infoTok
 have hlo:∀ k,v.ownBlock=some k→B≤k:=fun k hk=>(World.ownsRow.lt hown k hk).1
 refine wpList_append_own _ hgd s x 110 ho B 114 i0 (.agg #[.string ⟨#[]⟩,.int .i64 0]) 2 24 Tryz.underlying110 hi hz0 hz1 hz2 rfl (by decide) v ts.length _ hs (World.ownsRow.alloc hown _) ⟨w0.heap.size,0,none⟩ 1 1 [.string ⟨z.toArray⟩,.int .i64 p] hx rfl (cell_new2 _ _ _ _) (by intro u hu;simp at hu;rcases hu with rfl | rfl<;>rfl)
  (by unfold maxLen;omega) (by omega) (by simp;omega) (fun v' w' h1 hg _=>h v' w' ?_ (below_app (Below.refl B w0) hbase hlo hg))
 unfold OwnK
 rw [List.length_append,tokCells_append]
 exact h1
theorem IIn.cellAt {B:Nat} {w:World} {b off n cap:Nat} {zs:List Int} (h:IIn B w (.slice (some ⟨b,off,none⟩) n cap) zs) {k:Nat} (hk:k<zs.length) :
  b<B∧w.cell? ⟨b,off+k,none⟩=some (.int .i64 (zs.getD k 0)):=by
 obtain ⟨b',off',hp,hb,hc⟩:=h.at_ hk
 simp only [Option.some.injEq,Addr.mk.injEq] at hp
 obtain ⟨rfl,rfl,_⟩:=hp
 exact ⟨hb,hc⟩
theorem wordsR_nil:wordsR []=[]:=rfl
theorem wordsR_skip {r:Int} {t:List Int} (h:wordZ r=false):wordsR (r::t)=wordsR t:=by
 have:=rowsL_part (p:=[]) (t:=t) (by simp) h
 unfold wordsR
 rw [List.nil_append,one_nil,List.nil_append] at this
 rw [this]
theorem far_row {all rest:List Int} {ss:List (List UInt8)} {j:Nat} (h:Far all rest ss) (hj:j≤rest.length) (h0:j≠0) (hw:∀ r∈rest.take j,wordZ r=true) (hn:j=rest.length∨wordZ (rest.getD j 0)=false) :
  Far all (rest.drop j) (ss++[cutW (rest.take j)]):=by
 have hne:rest.take j≠[]:=by
  intro e
  have:=congrArg List.length e
  rw [List.length_take,List.length_nil] at this
  omega
 have h1:wordsR rest=cutW (rest.take j)::wordsR (rest.drop j):=by
  by_cases he:j=rest.length
  ·subst he
   rw [List.drop_length,wordsR_nil]
   rw [List.take_length] at hw hne ⊢
   unfold wordsR
   rw [rowsL_all hw,one_ne hne];rfl
  ·have hlt:j<rest.length:=by omega
   have hnn:wordZ (rest.getD j 0)=false:=hn.resolve_left he
   have hd:rest.drop j=rest.getD j 0::rest.drop (j+1):=by rw [List.drop_eq_getElem_cons hlt];simp [List.getD,hlt]
   have e:rest=rest.take j++rest.getD j 0::rest.drop (j+1):=by rw [← hd];exact (List.take_append_drop j rest).symm
   rw [hd,wordsR_skip hnn]
   conv=>lhs;rw [e]
   unfold wordsR
   rw [rowsL_part hw hnn,one_ne hne]
   rfl
 refine ⟨by rw [List.append_assoc,List.singleton_append,← h1];exact h.1,?_⟩
 have h2:=h.2
 rw [List.length_append,List.length_drop,List.length_singleton]
 omega
theorem far_skip {all rest:List Int} {ss:List (List UInt8)} (h:Far all rest ss) (hl:0<rest.length) (hn:wordZ (rest.getD 0 0)=false):Far all (rest.drop 1) ss:=by
 have:=far_stop (k:=0) h hl (by simp) hn
 simpa [one_nil] using this
theorem rtokens_any (s:ByteArray) (w:World) (hs:s.size≤1000000):Calls Tryz.prog 60 #[.string s] w (ToksLeft (numT (wordsB s.data.toList)) w):=by
 have hrun:=UM.rrunes_any s w hs
 have hlen:=UM.runesL_length s.data.toList
 rw [← Lib.size_eq] at hlen
 unfold UM.RunesLeft at hrun
 unfold wordsB
 obtain ⟨zs,hz⟩:∃ zs,runesL s.data.toList=zs:=⟨_,rfl⟩
 rw [hz] at hrun hlen ⊢
 have HR:=Lib.hid hrun
 have hzl:zs.length≤1000000:=by omega
 clear hrun hz hlen
 go_enter Tryz.func60,Tryz.ntmps60
 go_wp2_with fail
 refine HR.out.mono ?_
 rintro e w1 ⟨v,rfl,hown,hb1⟩
 have hir:IIn w1.heap.size w1 v zs:=OwnI.irow hown
 obtain ⟨p,cap,rfl,hlc,hcm⟩:=hir.shape
 unfold maxLen at hcm
 have HI:=Lib.hid hir
 have HB1:=Lib.hid hb1
 have hsz1:=hb1.size
 have HO0:Hid (OwnK w1.heap.size w1 (.slice none 0 0) (numT [])):=Lib.hid (OwnK.nil_ _ _)
 have HF0:Hid (Far zs (zs.drop 0) []):=Lib.hid ⟨rfl,by simp⟩
 have HB0:Hid (Below w1.heap.size w1 w1):=Lib.hid (Below.refl _ _)
 clear hir hown hb1 HR
 go_wp2_with fail
 go_loopw [3,5] (fun u a wr=>∃ (k:Nat) (ss:List (List UInt8)),k≤zs.length∧a=.int .i64 k∧Hid (Far zs (zs.drop k) ss)∧Hid (OwnK w1.heap.size wr u (numT ss))∧Hid (Below w1.heap.size w1 wr)) (fun _ a _=>zs.length - (intOf a).toNat)
 case atStart=>exact ⟨0,[],by omega,rfl,HF0,HO0,HB0⟩
 case round =>
  obtain ⟨k,ss,hk,rfl,HF,HO,HB⟩:=hrel
  clear HF0 HO0 HB0
  by_cases hlt:k<zs.length
  ·have t1:decide ((k:Int)<(zs.length:Int))=true:=by simp;omega
   obtain ⟨b,off,rfl,_,_⟩:=HI.out.at_ hlt
   have HW0:Hid (∀ r∈(zs.drop k).take 0,wordZ r=true):=Lib.hid (by simp)
   go_wp2_with fail
   go_loopw [6] (fun e wr=>∃ m:Nat,k≤m∧m≤zs.length∧e=.int .i64 (m:Int)∧Hid (∀ r∈(zs.drop k).take (m - k),wordZ r=true)∧Hid (OwnK w1.heap.size wr u3 (numT ss))∧Hid (Below w1.heap.size w1 wr)) (fun e _=>zs.length - (intOf e).toNat)
   case atStart=>exact ⟨k,by omega,by omega,rfl,by rw [Nat.sub_self];exact HW0,HO,HB⟩
   case round =>
    obtain ⟨m,hkm,hmn,rfl,HW,HO,HB⟩:=hrel
    clear HW0
    have hsz:=HB.out.size
    by_cases hlt2:m<zs.length
    ·have t2:decide ((m:Int)<(zs.length:Int))=true:=by simp;omega
     obtain ⟨hbl,hcell⟩:=HI.out.cellAt hlt2
     have hcell2:=(HB.out.cell (p:=⟨b,off+m,none⟩) hbl).trans hcell
     have hword:=fun W=>UM.rword_any (zs.getD m 0) W
     obtain ⟨r,hrr⟩:∃ r,zs.getD m 0=r:=⟨_,rfl⟩
     rw [hrr] at hcell2
     simp only [hrr] at hword
     cases hz:wordZ r with
     | true =>
       simp only [hz] at hword
       have hmore:=take_more (rest:=zs.drop k) (k:=m - k) (by rw [List.length_drop];omega) HW.out (by rw [List.getD_eq_getElem?_getD,List.getElem?_drop,show k+(m - k)=m by omega,← List.getD_eq_getElem?_getD,hrr];exact hz)
       rw [show m - k+1=m+1 - k by omega] at hmore
       have HWn:=Lib.hid hmore
       have HWd:=Lib.hid hword
       clear hword hz hrr HW hmore hcell
       go_wp2_with fail
       refine (HWd.out _).mono ?_
       rintro e w2 ⟨rfl,rfl⟩
       clear HWd
       go_wp2_with fail
       go_roundw
       case rel=>exact ⟨m+1,by omega,by omega,by go_num,HWn,HO,HB⟩
       case measure=>simp [intOf];omega
     | false =>
       simp only [hz] at hword
       have HWd:=Lib.hid hword
       by_cases hmk:m=k
       ·subst hmk
        have hsk:=far_skip HF.out (by rw [List.length_drop];omega) (by rw [List.getD_eq_getElem?_getD,List.getElem?_drop,Nat.add_zero,← List.getD_eq_getElem?_getD,hrr];exact hz)
        rw [List.drop_drop] at hsk
        have HSK:=Lib.hid hsk
        have t4:((m:Int) == (m:Int))=true:=by simp
        clear hword hz hrr HW hsk hcell
        go_wp2_with fail
        refine (HWd.out _).mono ?_
        rintro e w2 ⟨rfl,rfl⟩
        clear HWd
        go_wp2_with fail
        go_roundw
        case rel=>exact ⟨m+1,ss,by omega,by go_num,HSK,HO,HB⟩
        case measure=>simp [intOf];omega
       ·go_wp2_with fail
        refine (HWd.out _).mono ?_
        rintro e w2 ⟨rfl,rfl⟩
        have HB2:=HB
        have HO2:=HO
        clear hword HWd hcell
        have hst:=far_row HF.out (j:=m - k) (by rw [List.length_drop];omega) (by omega) HW.out (.inr (by rw [List.getD_eq_getElem?_getD,List.getElem?_drop,show k+(m - k)=m by omega,← List.getD_eq_getElem?_getD,hrr];exact hz))
        rw [List.drop_drop,show k+(m - k)=m by omega] at hst
        have hrow:=(((HI.out.drop2 k (by omega)).2 (by omega)).take (m - k) (by omega)).below (HB2.out)
        have hcu:=rcut_any _ _ _ (hrow.row (HB2.out.size)) (by rw [List.length_take,List.length_drop];omega)
        obtain ⟨X,hX⟩:∃ X,cutW ((zs.drop k).take (m - k))=X:=⟨_,rfl⟩
        rw [hX] at hst hcu
        have HST:=Lib.hid hst
        have HCU:=Lib.hid hcu
        have hf2:=HF.out.2
        have t4:((m:Int) == (k:Int))=false:=by simp;omega
        have i1:(k:Int)≤(m:Int):=by omega
        have i2:(m:Int)≤(cap:Int):=by omega
        have i3:((m:Int) - (k:Int)).toNat=m - k:=by omega
        clear hst hcu hrow hX HW
        go_wp2_with fail
        refine HCU.out.mono ?_
        rintro e w3 ⟨rfl,hb3⟩
        have HO3:=Lib.hid (HO2.out.keep hb3)
        have HB3:=Lib.hid (HB2.out.trans (hb3.mono HB2.out.size))
        have hsz3:=HB3.out.size
        have hlen:=HO3.out.shape
        obtain ⟨q,capq,rfl,hqc,hqm⟩:=hlen
        rw [numT_len] at hqc HO3 ⊢
        clear hb3 HCU
        go_wp2_with (at_builtin;refine wpList_append_tok rfl _ _ rfl w1.heap.size _ (numT ss) w3 X (ss.length:Int) rfl rfl HO3.out rfl (by rw [numT_len];omega) hsz3 ?_)
        intro v4 w4 hown4 hb4
        rw [← numT_snoc] at hown4
        have HO4:=Lib.hid hown4
        have HB4:=Lib.hid (HB3.out.trans hb4)
        clear hown4 hb4
        go_wp2_with fail
        go_roundw
        case rel=>exact ⟨m,ss++[X],by omega,rfl,HST,HO4,HB4⟩
        case measure=>simp [intOf];omega
    ·obtain rfl:m=zs.length:=by omega
     have t2:decide ((zs.length:Int)<(zs.length:Int))=false:=by simp
     have hst:=far_row HF.out (j:=zs.length - k) (by rw [List.length_drop];omega) (by omega) HW.out (.inl (by rw [List.length_drop]))
     rw [List.drop_drop,show k+(zs.length - k)=zs.length by omega] at hst
     have hrow:=(((HI.out.drop2 k (by omega)).2 (by omega)).take (zs.length - k) (by omega)).below (HB.out)
     have hcu:=rcut_any _ _ _ (hrow.row (HB.out.size)) (by rw [List.length_take,List.length_drop];omega)
     obtain ⟨X,hX⟩:∃ X,cutW ((zs.drop k).take (zs.length - k))=X:=⟨_,rfl⟩
     rw [hX] at hst hcu
     have HST:=Lib.hid hst
     have HCU:=Lib.hid hcu
     have hf2:=HF.out.2
     have t4:((zs.length:Int) == (k:Int))=false:=by simp;omega
     have i1:(k:Int)≤(zs.length:Int):=by omega
     have i2:(zs.length:Int)≤(cap:Int):=by omega
     have i3:((zs.length:Int) - (k:Int)).toNat=zs.length - k:=by omega
     clear hst hcu hrow hX HW
     go_wp2_with fail
     refine HCU.out.mono ?_
     rintro e w3 ⟨rfl,hb3⟩
     have HO3:=Lib.hid (HO.out.keep hb3)
     have HB3:=Lib.hid (HB.out.trans (hb3.mono HB.out.size))
     have hsz3:=HB3.out.size
     have hlen:=HO3.out.shape
     obtain ⟨q,capq,rfl,hqc,hqm⟩:=hlen
     rw [numT_len] at hqc HO3 ⊢
     clear hb3 HCU
     go_wp2_with (at_builtin;refine wpList_append_tok rfl _ _ rfl w1.heap.size _ (numT ss) w3 X (ss.length:Int) rfl rfl HO3.out rfl (by rw [numT_len];omega) hsz3 ?_)
     intro v4 w4 hown4 hb4
     rw [← numT_snoc] at hown4
     have HO4:=Lib.hid hown4
     have HB4:=Lib.hid (HB3.out.trans hb4)
     clear hown4 hb4
     go_wp2_with fail
     go_roundw
     case rel=>exact ⟨zs.length,ss++[X],by omega,rfl,HST,HO4,HB4⟩
     case measure=>simp [intOf];omega
  ·obtain rfl:k=zs.length:=by omega
   have t1:decide ((zs.length:Int)<(zs.length:Int))=false:=by simp
   have hf:=HF.out.1
   rw [List.drop_length,wordsR_nil,List.append_nil] at hf
   subst hf
   have HK:=Lib.hid HO.out.krow
   have HBf:=Lib.hid (HB1.out.trans (HB.out.mono hsz1))
   clear HO HF
   go_wp2_with fail
   go_ret
   exact ⟨_,rfl,HK.out,HBf.out⟩
end Go.Proofs.YtidhgicajlaafaaGreat.TK
namespace Go.Proofs.YtidhgicajlaafaaGreat.MX
open Go MM VM
open TK (wordsB wordsB_count)
open EM (Ev Trm Fld termsE placesT wordsN checkE checkE_ok posOf)
open RM (termsE_ok termsE_bad termsE_ne termsE_len)
open GM (places_cons len_places termsE_places)
theorem wordsN_few:∀ fs:List Fld,(∀ f∈fs,f.2.length≤4096)→wordsN fs≤4096*fs.length
 | [],_=>by simp [wordsN]
 | f::r,h=>by
   have h1:=wordsN_few r fun g hg=>h g (by simp [hg])
   have h2:=wordsB_count f.2
   have h3:=h f (by simp)
   have e:wordsN (f::r)=(wordsB f.2).length+wordsN r:=by simp [wordsN]
   rw [e,List.length_cons]
   omega
theorem places_few (e:Ev):(placesT (termsE e)).length≤65536:=by
 by_cases hc:checkE e=0
 ·obtain ⟨h1,h2⟩:=checkE_ok.1 hc
  have h3:=termsE_places e
  have h4:=wordsN_few e.2 fun f hf=>(h2 f hf).2
  omega
 ·rw [termsE_bad hc];simp [placesT]
theorem terms_fewM (e:Ev):(termsE e).length≤65536:=Nat.le_trans (len_places fun t ht=>termsE_ne e t ht) (places_few e)
theorem place_le:∀ {T:List Trm} {t:Trm},t∈T→t.2.length≤(placesT T).length
 | u::T,t,h=>by
   rw [places_cons]
   rcases List.mem_cons.1 h with rfl | h
   ·omega
   ·have:=place_le h;omega
theorem fold_len (s:List UInt8) (whole:Bool):∀ (ts:List Trm) (l:List Int),(ts.foldl (fun l t=>if selM s whole t.1 then mergeL l t.2 else l) l).length≤l.length+(placesT ts).length
 | [],l=>by simp [placesT]
 | t::ts,l=>by
   rw [List.foldl_cons,places_cons]
   have:=fold_len s whole ts (if selM s whole t.1 then mergeL l t.2 else l)
   split at this
   ·rw [(mergeL_perm l t.2).length_eq,List.length_append] at this
    rename_i h
    rw [if_pos h]
    omega
   ·rename_i h
    rw [if_neg h]
    omega
theorem ofT_len (ts:List Trm) (s:List UInt8) (whole:Bool):(ofT ts s whole).length≤(placesT ts).length:=by
 have:=fold_len s whole ts []
 rw [List.length_nil,Nat.zero_add] at this
 exact this
theorem places_take:∀ (ts:List Trm) (k:Nat),(placesT (ts.take k)).length≤(placesT ts).length
 | [],k=>by simp
 | t::ts,0=>by simp [placesT]
 | t::ts,k+1=>by
   rw [List.take_succ_cons,places_cons,places_cons]
   have:=places_take ts k
   omega
theorem ofT_take_len (e:Ev) (s:List UInt8) (whole:Bool) (k:Nat):(ofT ((termsE e).take k) s whole).length≤65536:=Nat.le_trans (ofT_len _ _ _) (Nat.le_trans (places_take _ _) (places_few e))
theorem place_few (e:Ev) {t:Trm} (h:t∈termsE e):t.2.length≤65536:=Nat.le_trans (place_le h) (places_few e)
theorem postsO_len:∀ (l:List (List Int)) (b:Int),(postsO b l).length≤l.length
 | [],b=>by simp [postsO]
 | p::r,b=>by
   have h:=postsO_len r (b+1)
   rw [postsO,List.length_append,List.length_cons]
   split
   ·simp;omega
   ·simp;omega
theorem postsM_len (es:List Ev) (s:List UInt8) (whole:Bool):(postsM es s whole).length≤es.length:=by
 have:=postsO_len (es.map fun e=>ofE e s whole) 0
 rw [List.length_map] at this
 exact this
end Go.Proofs.YtidhgicajlaafaaGreat.MX
namespace Go.Proofs.YtidhgicajlaafaaGreat.TK
open Go.RowKit MM
open UM (lowerZ wordZ encL runesL)
def BoolLeft (b:Bool) (w:World) (e:Ending) (w':World):Prop:=e=.returned (.bool b)∧Below w.heap.size w w'
theorem samew_any (u v:Value) (ss:List (List UInt8)) (w:World) (hu:TRow w u ss) (hv:TRow w v ss):Calls Tryz.prog 11 #[u,v] w (BoolLeft true w):=by
 obtain ⟨p,cp,rfl,hp1,hp2⟩:=hu.shape
 obtain ⟨q,cq,rfl,hq1,hq2⟩:=hv.shape
 unfold maxLen at hp2
 have HP:=Lib.hid hu
 have HQ:=Lib.hid hv
 have HB0:Hid (Below w.heap.size w w):=Lib.hid (Below.refl _ _)
 clear hu hv
 go_enter Tryz.func11,Tryz.ntmps11
 go_wp2
 go_loopw [5] (fun i wr=>∃ k:Nat,k≤ss.length∧i=.int .i64 k∧Hid (Below w.heap.size w wr)) (fun i _=>ss.length - (intOf i).toNat)
 case atStart=>exact ⟨0,Nat.zero_le _,rfl,HB0⟩
 case round =>
  obtain ⟨k,hk,rfl,HB⟩:=hrel
  clear HB0
  by_cases hlt:k<ss.length
  ·obtain ⟨b,off,rfl,hbl,hcell⟩:=TIn.at_ HP.out hlt
   obtain ⟨b2,off2,rfl,hbl2,hcell2⟩:=TIn.at_ HQ.out hlt
   rw [← HB.out.cell (p:=⟨b,off+k,none⟩) hbl] at hcell
   rw [← HB.out.cell (p:=⟨b2,off2+k,none⟩) hbl2] at hcell2
   obtain ⟨r,hr⟩:∃ r:ByteArray,⟨(ss[k]).toArray⟩=r:=⟨_,rfl⟩
   rw [hr] at hcell hcell2
   have hltz:(k:Int)<(ss.length:Int):=by omega
   clear hr
   go_wp2
   go_quiet (fail)
   go_wp2
   go_roundw
   case rel=>exact ⟨k+1,by omega,by go_num,Lib.hid (MM.below_drewN HB.out _)⟩
   case measure=>simp [intOf];omega
  ·obtain rfl:k=ss.length:=by omega
   go_wp2
   go_ret
   exact ⟨rfl,HB.out⟩
end Go.Proofs.YtidhgicajlaafaaGreat.TK
