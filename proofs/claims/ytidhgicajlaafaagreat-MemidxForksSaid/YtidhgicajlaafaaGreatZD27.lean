import Derived.Test.YtidhgicajlaafaaGreatZD26
import Derived.Deep.MidRow
set_option maxRecDepth 100000
set_option maxHeartbeats 8000000
set_option linter.unusedVariables false
set_option linter.unusedSimpArgs false
namespace Go.Proofs.YtidhgicajlaafaaGreat.TK
open Go.RowKit MM
open UM (lowerZ wordZ encL runesL)
theorem infoTok:(Tryz.prog.info? 114).map (fun i=>(i.zero,i.size,i.bytes))=some (some (.agg #[.string ⟨#[]⟩,.int .i64 0]),2,24):=by kernel_rfl
def tokV (t:List UInt8×Int):List Value:=[.string ⟨t.1.toArray⟩,.int .i64 t.2]
def tokCells (ts:List (List UInt8×Int)):List Value:=ts.flatMap tokV
theorem tokCells_len (ts:List (List UInt8×Int)):(tokCells ts).length=ts.length*2:=by
 induction ts with
 | nil=>rfl
 | cons t ts ih =>
   have e:tokCells (t::ts)=tokV t++tokCells ts:=rfl
   rw [e,List.length_append,ih,List.length_cons]
   simp [tokV];omega
theorem tokCells_append (a b:List (List UInt8×Int)):tokCells (a++b)=tokCells a++tokCells b:=by simp [tokCells]
theorem tokCells_get:∀ (ts:List (List UInt8×Int)) (i:Nat) (h:i<ts.length),(tokCells ts)[i*2]? = some (.string ⟨ts[i].1.toArray⟩)∧(tokCells ts)[i*2+1]? = some (.int .i64 ts[i].2)
 | t::ts,0,_=>⟨rfl,rfl⟩
 | t::ts,i+1,h=>by
   have:=tokCells_get ts i (by simpa using h)
   have e:tokCells (t::ts)=.string ⟨t.1.toArray⟩::.int .i64 t.2::tokCells ts:=rfl
   rw [e,show (i+1)*2=i*2+1+1 by omega]
   simpa using this
def numT (ws:List (List UInt8)):List (List UInt8×Int):=ws.zipIdx.map fun p=>(p.1,(p.2:Int))
theorem numT_len (ws:List (List UInt8)):(numT ws).length=ws.length:=by simp [numT]
theorem numT_snoc (ws:List (List UInt8)) (x:List UInt8):numT (ws++[x])=numT ws++[(x,(ws.length:Int))]:=by simp [numT,List.zipIdx_append]
theorem numT_at (ws:List (List UInt8)) (i:Nat) (h:i<(numT ws).length):(numT ws)[i]=(ws[i]'(by rw [numT_len] at h;exact h),(i:Int)):=by simp [numT]
def KIn (B:Nat) (w:World) (v:Value) (ts:List (List UInt8×Int)):Prop :=
 ∃ (p:Option Addr) (cap:Nat),v=.slice p ts.length cap∧ts.length≤cap∧cap≤maxLen ∧
   (ts=[]∨∃ b off,p=some ⟨b,off,none⟩∧b<B∧∀ i (h:i<ts.length),w.cell? ⟨b,off+i*2,none⟩=some (.string ⟨ts[i].1.toArray⟩)∧w.cell? ⟨b,off+i*2+1,none⟩=some (.int .i64 ts[i].2))
def KRow (w:World) (v:Value) (ts:List (List UInt8×Int)):Prop:=KIn w.heap.size w v ts
theorem KIn.below {B:Nat} {w w':World} {v:Value} {ts:List (List UInt8×Int)} (h:KIn B w v ts) (hb:Below B w w'):KIn B w' v ts:=by
 obtain ⟨p,cap,hv,h1,h2,h⟩:=h
 refine ⟨p,cap,hv,h1,h2,?_⟩
 rcases h with h | ⟨b,off,hp,hlt,hc⟩
 ·exact .inl h
 ·exact .inr ⟨b,off,hp,hlt,fun i hi=>by
   rw [hb.cell (p:=⟨b,off+i*2,none⟩) hlt,hb.cell (p:=⟨b,off+i*2+1,none⟩) hlt];exact hc i hi⟩
theorem KIn.mono {B B':Nat} {w:World} {v:Value} {ts:List (List UInt8×Int)} (h:KIn B w v ts) (hB:B≤B'):KIn B' w v ts:=by
 obtain ⟨p,cap,hv,h1,h2,h⟩:=h
 refine ⟨p,cap,hv,h1,h2,?_⟩
 rcases h with h | ⟨b,off,hp,hlt,hc⟩
 ·exact .inl h
 ·exact .inr ⟨b,off,hp,by omega,hc⟩
theorem KRow.below {w w':World} {v:Value} {ts:List (List UInt8×Int)} (h:KRow w v ts) (hb:Below w.heap.size w w'):KRow w' v ts:=(KIn.below h hb).mono hb.size
theorem KIn.shape {B:Nat} {w:World} {v:Value} {ts:List (List UInt8×Int)} (h:KIn B w v ts):∃ p cap,v=.slice p ts.length cap∧ts.length≤cap∧cap≤maxLen:=by
 obtain ⟨p,cap,hv,h1,h2,_⟩:=h
 exact ⟨p,cap,hv,h1,h2⟩
theorem KIn.at_ {B:Nat} {w:World} {p:Option Addr} {n cap:Nat} {ts:List (List UInt8×Int)} (h:KIn B w (.slice p n cap) ts) {k:Nat} (hk:k<ts.length) :
  ∃ b off,p=some ⟨b,off,none⟩∧b<B∧w.cell? ⟨b,off+k*2,none⟩=some (.string ⟨ts[k].1.toArray⟩)∧w.cell? ⟨b,off+k*2+1,none⟩=some (.int .i64 ts[k].2):=by
 obtain ⟨p',cap',hv,_,_,h⟩:=h
 simp only [Value.slice.injEq] at hv
 obtain ⟨rfl,_,_⟩:=hv
 rcases h with h | ⟨b,off,hp,hlt,hc⟩
 ·subst h;simp at hk
 ·exact ⟨b,off,hp,hlt,hc k hk⟩
def OwnK (B:Nat) (w:World) (v:Value) (ts:List (List UInt8×Int)):Prop:=w.ownsRow B 114 2 v ts.length (tokCells ts)
theorem OwnK.nil_ (B:Nat) (w:World):OwnK B w (.slice none 0 0) []:=World.ownsRow_nil _ _ _ _
theorem OwnK.keep {w w':World} {B:Nat} {v:Value} {ts:List (List UInt8×Int)} (h:OwnK B w v ts) (hb:Below w.heap.size w w'):OwnK B w' v ts:=own_keep (B:=0) h hb
theorem OwnK.krow {B:Nat} {w:World} {v:Value} {ts:List (List UInt8×Int)} (h:OwnK B w v ts):KRow w v ts:=by
 rcases h.2 with ⟨rfl,h0⟩ | ⟨g,cap,cur,rfl,hg,hh,hnc,hm,hs,ht⟩
 ·have:ts=[]:=List.eq_nil_of_length_eq_zero h0
  subst this
  exact ⟨none,0,rfl,Nat.le_refl _,by unfold maxLen;omega,.inl rfl⟩
 ·refine ⟨some ⟨g,0,none⟩,cap,rfl,hnc,hm,.inr ⟨g,0,rfl,(Array.getElem?_eq_some_iff.1 hh).1,fun i hi => ?_⟩⟩
  have hget:=tokCells_get ts i hi
  have key:∀ j u,(tokCells ts)[j]? = some u→w.cell? ⟨g,0+j,none⟩=some u:=fun j u hj=>by
   have:=Lib.cells_of_row hh (ts.length*2) j u (by rw [ht];exact hj)
   rw [add_at] at this
   exact this
  exact ⟨key _ _ hget.1,by have:=key _ _ hget.2;rw [← Nat.add_assoc] at this;exact this⟩
theorem OwnK.shape {B:Nat} {w:World} {v:Value} {ts:List (List UInt8×Int)} (h:OwnK B w v ts):∃ p cap,v=.slice p ts.length cap∧ts.length≤cap∧cap≤maxLen:=h.krow.shape
def ToksLeft (ts:List (List UInt8×Int)) (w:World) (e:Ending) (w':World):Prop:=∃ v,e=.returned v∧KRow w' v ts∧Below w.heap.size w w'
theorem below_cells {B:Nat} {a w:World} (h:Below B a w) {g o:Nat} (hg:B≤g) (vs:List Value):Below B a (w.setCells g o vs):=by
 induction vs generalizing w o with
 | nil=>exact h
 | cons v vs ih=>exact ih (h.setCell (p:=⟨g,o,none⟩) hg v)
def Tagged (w:World) (g:Nat):Prop:=∃ cur fr,w.heap[g]? = some (.cells cur 114 fr)
theorem Tagged.set {w:World} {g:Nat} (h:Tagged w g) (o:Nat) (v:Value):Tagged (w.setCell ⟨g,o,none⟩ v) g:=by
 obtain ⟨cur,fr,h⟩:=h
 refine ⟨cur.setIfInBounds o v,fr,?_⟩
 simp [World.setCell,Array.getElem?_modify,h]
theorem Tagged.sets {w:World} {g:Nat} (h:Tagged w g) (o:Nat) (vs:List Value):Tagged (w.setCells g o vs) g:=by
 induction vs generalizing w o with
 | nil=>exact h
 | cons v vs ih=>exact ih (h.set o v) (o+1)
def HalfK (B:Nat) (w:World) (g n:Nat) (ts:List (List UInt8×Int)):Prop:=B≤g∧g<w.heap.size∧w.there g 0 (n*2)∧w.rangeAt g 0 (tokCells ts)∧Tagged w g
theorem halfK_start {B:Nat} {w:World} {g n:Nat} {xs:List Value} (h:w.ownsRow B 114 2 (.slice (some ⟨g,0,none⟩) n n) n xs):HalfK B w g n []:=by
 rcases h.2 with ⟨hv,_⟩ | ⟨g',cap,cur,hv,hb,hh,hn,hm,hs,ht⟩
 ·cases hv
 ·simp only [Value.slice.injEq,Option.some.injEq,Addr.mk.injEq] at hv
  obtain ⟨⟨rfl,_⟩,_,rfl⟩:=hv
  refine ⟨hb,(Array.getElem?_eq_some_iff.1 hh).1,fun j hj=>⟨?_,frozen_of_row w g _ cur _ hh⟩,(fun j v hj=>by simp [tokCells] at hj),⟨cur,_,hh⟩⟩
  have hx:∃ u,(cur.toList.take (n*2))[j]? = some u:=⟨_,List.getElem?_eq_getElem (by rw [List.length_take,Array.length_toList];omega)⟩
  obtain ⟨u,hu⟩:=hx
  have:=Lib.cells_of_row hh (n*2) j u hu
  rw [add_at] at this
  rw [this];rfl
theorem HalfK.next {B:Nat} {w:World} {g n:Nat} {ts:List (List UInt8×Int)} (h:HalfK B w g n ts) (hk:ts.length<n) (x:List UInt8) (p:Int) :
  HalfK B (w.setCells g (ts.length*2) [.string ⟨x.toArray⟩,.int .i64 p]) g n (ts++[(x,p)]):=by
 obtain ⟨h1,h2,h3,h4,h5⟩:=h
 have ht:w.there g (ts.length*2) [Value.string ⟨x.toArray⟩,.int .i64 p].length:=fun j hj=>by
  have:=h3 (ts.length*2+j) (by simp at hj;omega)
  rw [Nat.zero_add] at this
  exact this
 refine ⟨h1,?_,World.there_setCells h3 _ _ _,?_,h5.sets _ _⟩
 ·exact Nat.lt_of_lt_of_le h2 (below_cells (Below.refl 0 w) (Nat.zero_le _) _).size
 ·have e1:=World.rangeAt_setCells_apart h4 g (ts.length*2) [.string ⟨x.toArray⟩,.int .i64 p] (.inr (.inl (by rw [tokCells_len];omega)))
  have e2:=World.rangeAt_setCells_same w g (ts.length*2) _ ht
  intro j v hj
  rw [tokCells_append] at hj
  by_cases hlt:j<ts.length*2
  ·rw [List.getElem?_append_left (by rw [tokCells_len];exact hlt)] at hj
   exact e1 j v hj
  ·rw [List.getElem?_append_right (by rw [tokCells_len];omega),tokCells_len] at hj
   have:=e2 (j - ts.length*2) v hj
   rw [show ts.length*2+(j - ts.length*2)=0+j by omega] at this
   exact this
theorem HalfK.krow {B:Nat} {w:World} {g n:Nat} {ts:List (List UInt8×Int)} (h:HalfK B w g n ts) (hn:ts.length=n) (hm:n≤maxLen):KRow w (.slice (some ⟨g,0,none⟩) n n) ts:=by
 obtain ⟨h1,h2,h3,h4,_⟩:=h
 subst hn
 refine ⟨some ⟨g,0,none⟩,ts.length,rfl,Nat.le_refl _,hm,.inr ⟨g,0,rfl,h2,fun i hi => ?_⟩⟩
 have hget:=tokCells_get ts i hi
 have k1:=h4 _ _ hget.1
 have k2:=h4 _ _ hget.2
 rw [← Nat.add_assoc] at k2
 exact ⟨k1,k2⟩
theorem tokens_tag (s:ByteArray) (w:World) (hs:s.size≤1000000):Calls Tryz.prog 107 #[.string s] w fun e w'=>∃ g,e=.returned (.slice (some ⟨g,0,none⟩) (numT (wordsB s.data.toList)).length (numT (wordsB s.data.toList)).length)∧KRow w' (.slice (some ⟨g,0,none⟩) (numT (wordsB s.data.toList)).length (numT (wordsB s.data.toList)).length) (numT (wordsB s.data.toList))∧Tagged w' g∧w.heap.size≤g∧Below w.heap.size w w':=by
 obtain ⟨i0,hi,hz0,hz1,hz2⟩:=info_parts infoTok
 have hc:=wordsB_count s.data.toList
 rw [← Lib.size_eq] at hc
 have HWd:=Lib.hid (words_any s w hs)
 obtain ⟨ws,hws⟩:∃ ws,wordsB s.data.toList=ws:=⟨_,rfl⟩
 rw [hws] at hc HWd ⊢
 have hwl:ws.length≤1000000:=by omega
 clear hws hc
 obtain ⟨L,hL⟩:∃ L,numT ws=L:=⟨_,rfl⟩
 have hLl:L.length=ws.length:=by rw [← hL,numT_len]
 have HLl:=Lib.hid hLl
 have HLat:Hid (∀ i (h:i<L.length) (h':i<ws.length),L[i]=(ws[i],(i:Int))):=Lib.hid (by subst hL;exact fun i h h'=>numT_at ws i h)
 rw [hL]
 clear hL hLl
 go_enter Tryz.func107,Tryz.ntmps107
 go_wp2_with fail
 refine HWd.out.mono ?_
 rintro e w1 ⟨v,rfl,hown,hb1⟩
 obtain ⟨p,cap,rfl,hlc,hcm⟩:=hown.shape
 unfold maxLen at hcm
 have HT:=Lib.hid hown.trow
 have HB1:=Lib.hid hb1
 have hsz1:=hb1.size
 clear hown hb1 HWd
 go_wp2_with (at_make;refine wpList_make_full w1 rfl _ _ 110 rfl w1.heap.size 114 i0 (.agg #[.string ⟨#[]⟩,.int .i64 0]) 2 Tryz.underlying110 hi hz0 hz1 .i64 .i64 _ _ ws.length rfl rfl rfl rfl (by rw [hz2];omega) (by unfold maxLen;omega) (Nat.le_refl _) ?_)
 intro w2 hown2 hg2
 have b2:=(Below.refl w1.heap.size w1).grown hg2 (Nat.le_refl _) (fun k h=>by cases h)
 have HH0:Hid (HalfK w1.heap.size w2 w1.heap.size ws.length (L.take 0)):=Lib.hid (halfK_start hown2)
 have HB0:=Lib.hid b2
 clear hown2 hg2 b2 hi hz0 hz1 hz2
 go_wp2_with fail
 go_loopw [14] (fun i wr=>∃ k:Nat,k≤ws.length∧i=.int .i64 k∧Hid (HalfK w1.heap.size wr w1.heap.size ws.length (L.take k))∧Hid (Below w1.heap.size w1 wr)) (fun i _=>ws.length - (intOf i).toNat)
 case atStart=>exact ⟨0,by omega,rfl,HH0,HB0⟩
 case round =>
  obtain ⟨k,hk,rfl,HH,HB⟩:=hrel
  clear HH0 HB0
  by_cases hlt:k<ws.length
  ·have t1:decide ((k:Int)<(ws.length:Int))=true:=by simp;omega
   obtain ⟨b,off,rfl,hbl,hcell⟩:=TIn.at_ HT.out hlt
   have hcell2:=(HB.out.cell (p:=⟨b,off+k,none⟩) hbl).trans hcell
   have hLt:(L.take k).length=k:=by rw [List.length_take,HLl.out];omega
   have hnx:L.take (k+1)=L.take k++[(ws[k],(k:Int))]:=by
    rw [List.take_succ_eq_append_getElem (by rw [HLl.out];exact hlt),HLat.out k (by rw [HLl.out];exact hlt) hlt]
   have hst:=HH.out.next (by rw [hLt];exact hlt) ws[k] (k:Int)
   rw [← hnx,hLt] at hst
   obtain ⟨x,hx⟩:∃ x,ws[k]=x:=⟨_,rfl⟩
   rw [hx] at hst hcell2
   have hth:wr.there w1.heap.size (k*2) 2:=fun j hj=>by
    have:=HH.out.2.2.1 (k*2+j) (by omega)
    rw [Nat.zero_add] at this
    exact this
   have HS:=Lib.hid hst
   obtain ⟨u0,f1⟩:=Option.isSome_iff_exists.1 (hth 0 (by omega)).1
   have f2:=(hth 0 (by omega)).2
   have f3:=((World.there_setCells hth w1.heap.size (k*2) [.string ⟨x.toArray⟩]) 1 (by omega))
   obtain ⟨u1,f3a⟩:=Option.isSome_iff_exists.1 f3.1
   have f3b:=f3.2
   rw [Nat.add_zero] at f1 f2
   have e1:wr.setCells w1.heap.size (k*2) [.string ⟨x.toArray⟩]=wr.setCell ⟨w1.heap.size,k*2,none⟩ (.string ⟨x.toArray⟩):=rfl
   rw [e1] at f3a f3b
   have HB2:=Lib.hid (below_cells HB.out (g:=w1.heap.size) (o:=k*2) (Nat.le_refl _) [.string ⟨x.toArray⟩,.int .i64 (k:Int)])
   clear hst hth hcell hnx hx e1 f3
   go_wp2_with fail
   go_roundw
   case rel=>exact ⟨k+1,by omega,by go_num,HS,HB2⟩
   case measure=>simp [intOf];omega
  ·obtain rfl:k=ws.length:=by omega
   have t1:decide ((ws.length:Int)<(ws.length:Int))=false:=by simp
   have hLt:L.take ws.length=L:=by rw [← HLl.out,List.take_length]
   have hk:=HH.out
   rw [hLt] at hk
   have HK:=Lib.hid (hk.krow HLl.out (by unfold maxLen;omega))
   have HBf:=Lib.hid (HB1.out.trans (HB.out.mono hsz1))
   have HG:=Lib.hid hk.2.2.2.2
   clear hk hLt HH
   go_wp2_with fail
   go_ret
   have hLl2:=HLl.out
   refine ⟨w1.heap.size,?_,?_,HG.out,hsz1,HBf.out⟩
   ·rw [hLl2];rfl
   ·rw [hLl2];exact HK.out
end Go.Proofs.YtidhgicajlaafaaGreat.TK
namespace Go.Proofs.YtidhgicajlaafaaGreat.TK
open Go.RowKit MM
open UM (lowerZ wordZ encL runesL)
theorem cell_new2 (w:World) (x y:Value) (t:TypeId):∀ j u,[x,y][j]? = some u→(w.alloc (.cells #[x,y] t)).cell? ((⟨w.heap.size,0,none⟩:Addr).add j)=some u:=by
 intro j u hj
 match j,hj with
 | 0,hj=>simp at hj;subst hj;simp [Addr.add]
 | 1,hj=>simp at hj;subst hj;simp [Addr.add]
 | (j+2),hj=>simp at hj
theorem wpList_append_tok {w:World} {ops:Array Oper} {rest:List Oper} {o:Oper} {a:Act} {Q:Exit→Act→World→Prop} (hgd:o.guard=none) (s x:Operand)
  (ho:o.op=.call { callee:=.builtin .append,args:=#[s,x],argTypes:=#[110,110] }) (B:Nat) (v:Value) (ts:List (List UInt8×Int)) (w0:World) (z:List UInt8) (p:Int) (hw:w=w0.alloc (.cells #[.string ⟨z.toArray⟩,.int .i64 p] 114)) (hs:a.eval s=v) (hown:OwnK B w0 v ts)
  (hx:a.eval x=.slice (some ⟨w0.heap.size,0,none⟩) 1 1) (hlen:ts.length≤1000000000000) (hbase:B≤w0.heap.size)
  (h:∀ v' w',OwnK B w' v' (ts++[(z,p)])→Below B w0 w'→wpList Tryz.prog ops Q rest (a.put o.dst v') w'):wpList Tryz.prog ops Q (o::rest) a w:=by
 subst hw
 obtain ⟨i0,hi,hz0,hz1,hz2⟩:=info_parts infoTok
 have hlo:∀ k,v.ownBlock=some k→B≤k:=fun k hk=>(World.ownsRow.lt hown k hk).1
 refine wpList_append_own _ hgd s x 110 ho B 114 i0 (.agg #[.string ⟨#[]⟩,.int .i64 0]) 2 24 Tryz.underlying110 hi hz0 hz1 hz2 rfl (by decide) v ts.length _ hs (World.ownsRow.alloc hown _) ⟨w0.heap.size,0,none⟩ 1 1 [.string ⟨z.toArray⟩,.int .i64 p] hx rfl (cell_new2 _ _ _ _) (by intro u hu;simp at hu;rcases hu with rfl | rfl<;>rfl)
  (by unfold maxLen;omega) (by omega) (by simp;omega) (fun v' w' h1 hg _=>h v' w' ?_ (below_app (Below.refl B w0) hbase hlo hg))
 unfold OwnK
 rw [List.length_append,tokCells_append]
 exact h1
theorem IIn.cellAt {B:Nat} {w:World} {b off n cap:Nat} {zs:List Int} (h:IIn B w (.slice (some ⟨b,off,none⟩) n cap) zs) {k:Nat} (hk:k<zs.length) :
  b<B∧w.cell? ⟨b,off+k,none⟩=some (.int .i64 (zs.getD k 0)):=by
 obtain ⟨b',off',hp,hb,hc⟩:=h.at_ hk
 simp only [Option.some.injEq,Addr.mk.injEq] at hp
 obtain ⟨rfl,rfl,_⟩:=hp
 exact ⟨hb,hc⟩
theorem wordsR_nil:wordsR []=[]:=rfl
theorem wordsR_skip {r:Int} {t:List Int} (h:wordZ r=false):wordsR (r::t)=wordsR t:=by
 have:=rowsL_part (p:=[]) (t:=t) (by simp) h
 unfold wordsR
 rw [List.nil_append,one_nil,List.nil_append] at this
 rw [this]
theorem far_row {all rest:List Int} {ss:List (List UInt8)} {j:Nat} (h:Far all rest ss) (hj:j≤rest.length) (h0:j≠0) (hw:∀ r∈rest.take j,wordZ r=true) (hn:j=rest.length∨wordZ (rest.getD j 0)=false) :
  Far all (rest.drop j) (ss++[cutW (rest.take j)]):=by
 have hne:rest.take j≠[]:=by
  intro e
  have:=congrArg List.length e
  rw [List.length_take,List.length_nil] at this
  omega
 have h1:wordsR rest=cutW (rest.take j)::wordsR (rest.drop j):=by
  by_cases he:j=rest.length
  ·subst he
   rw [List.drop_length,wordsR_nil]
   rw [List.take_length] at hw hne ⊢
   unfold wordsR
   rw [rowsL_all hw,one_ne hne];rfl
  ·have hlt:j<rest.length:=by omega
   have hnn:wordZ (rest.getD j 0)=false:=hn.resolve_left he
   have hd:rest.drop j=rest.getD j 0::rest.drop (j+1):=by rw [List.drop_eq_getElem_cons hlt];simp [List.getD,hlt]
   have e:rest=rest.take j++rest.getD j 0::rest.drop (j+1):=by rw [← hd];exact (List.take_append_drop j rest).symm
   rw [hd,wordsR_skip hnn]
   conv=>lhs;rw [e]
   unfold wordsR
   rw [rowsL_part hw hnn,one_ne hne]
   rfl
 refine ⟨by rw [List.append_assoc,List.singleton_append,← h1];exact h.1,?_⟩
 have h2:=h.2
 rw [List.length_append,List.length_drop,List.length_singleton]
 omega
theorem far_skip {all rest:List Int} {ss:List (List UInt8)} (h:Far all rest ss) (hl:0<rest.length) (hn:wordZ (rest.getD 0 0)=false):Far all (rest.drop 1) ss:=by
 have:=far_stop (k:=0) h hl (by simp) hn
 simpa [one_nil] using this
theorem rtokens_any (s:ByteArray) (w:World) (hs:s.size≤1000000):Calls Tryz.prog 60 #[.string s] w (ToksLeft (numT (wordsB s.data.toList)) w):=by
 have hrun:=UM.rrunes_any s w hs
 have hlen:=UM.runesL_length s.data.toList
 rw [← Lib.size_eq] at hlen
 unfold UM.RunesLeft at hrun
 unfold wordsB
 obtain ⟨zs,hz⟩:∃ zs,runesL s.data.toList=zs:=⟨_,rfl⟩
 rw [hz] at hrun hlen ⊢
 have HR:=Lib.hid hrun
 have hzl:zs.length≤1000000:=by omega
 clear hrun hz hlen
 go_enter Tryz.func60,Tryz.ntmps60
 go_wp2_with fail
 refine HR.out.mono ?_
 rintro e w1 ⟨v,rfl,hown,hb1⟩
 have hir:IIn w1.heap.size w1 v zs:=OwnI.irow hown
 obtain ⟨p,cap,rfl,hlc,hcm⟩:=hir.shape
 unfold maxLen at hcm
 have HI:=Lib.hid hir
 have HB1:=Lib.hid hb1
 have hsz1:=hb1.size
 have HO0:Hid (OwnK w1.heap.size w1 (.slice none 0 0) (numT [])):=Lib.hid (OwnK.nil_ _ _)
 have HF0:Hid (Far zs (zs.drop 0) []):=Lib.hid ⟨rfl,by simp⟩
 have HB0:Hid (Below w1.heap.size w1 w1):=Lib.hid (Below.refl _ _)
 clear hir hown hb1 HR
 go_wp2_with fail
 go_loopw [3,5] (fun u a wr=>∃ (k:Nat) (ss:List (List UInt8)),k≤zs.length∧a=.int .i64 k∧Hid (Far zs (zs.drop k) ss)∧Hid (OwnK w1.heap.size wr u (numT ss))∧Hid (Below w1.heap.size w1 wr)) (fun _ a _=>zs.length - (intOf a).toNat)
 case atStart=>exact ⟨0,[],by omega,rfl,HF0,HO0,HB0⟩
 case round =>
  obtain ⟨k,ss,hk,rfl,HF,HO,HB⟩:=hrel
  clear HF0 HO0 HB0
  by_cases hlt:k<zs.length
  ·have t1:decide ((k:Int)<(zs.length:Int))=true:=by simp;omega
   obtain ⟨b,off,rfl,_,_⟩:=HI.out.at_ hlt
   have HW0:Hid (∀ r∈(zs.drop k).take 0,wordZ r=true):=Lib.hid (by simp)
   go_wp2_with fail
   go_loopw [6] (fun e wr=>∃ m:Nat,k≤m∧m≤zs.length∧e=.int .i64 (m:Int)∧Hid (∀ r∈(zs.drop k).take (m - k),wordZ r=true)∧Hid (OwnK w1.heap.size wr u3 (numT ss))∧Hid (Below w1.heap.size w1 wr)) (fun e _=>zs.length - (intOf e).toNat)
   case atStart=>exact ⟨k,by omega,by omega,rfl,by rw [Nat.sub_self];exact HW0,HO,HB⟩
   case round =>
    obtain ⟨m,hkm,hmn,rfl,HW,HO,HB⟩:=hrel
    clear HW0
    have hsz:=HB.out.size
    by_cases hlt2:m<zs.length
    ·have t2:decide ((m:Int)<(zs.length:Int))=true:=by simp;omega
     obtain ⟨hbl,hcell⟩:=HI.out.cellAt hlt2
     have hcell2:=(HB.out.cell (p:=⟨b,off+m,none⟩) hbl).trans hcell
     have hword:=fun W=>UM.rword_any (zs.getD m 0) W
     obtain ⟨r,hrr⟩:∃ r,zs.getD m 0=r:=⟨_,rfl⟩
     rw [hrr] at hcell2
     simp only [hrr] at hword
     cases hz:wordZ r with
     | true =>
       simp only [hz] at hword
       have hmore:=take_more (rest:=zs.drop k) (k:=m - k) (by rw [List.length_drop];omega) HW.out (by rw [List.getD_eq_getElem?_getD,List.getElem?_drop,show k+(m - k)=m by omega,← List.getD_eq_getElem?_getD,hrr];exact hz)
       rw [show m - k+1=m+1 - k by omega] at hmore
       have HWn:=Lib.hid hmore
       have HWd:=Lib.hid hword
       clear hword hz hrr HW hmore hcell
       go_wp2_with fail
       refine (HWd.out _).mono ?_
       rintro e w2 ⟨rfl,rfl⟩
       clear HWd
       go_wp2_with fail
       go_roundw
       case rel=>exact ⟨m+1,by omega,by omega,by go_num,HWn,HO,HB⟩
       case measure=>simp [intOf];omega
     | false =>
       simp only [hz] at hword
       have HWd:=Lib.hid hword
       by_cases hmk:m=k
       ·subst hmk
        have hsk:=far_skip HF.out (by rw [List.length_drop];omega) (by rw [List.getD_eq_getElem?_getD,List.getElem?_drop,Nat.add_zero,← List.getD_eq_getElem?_getD,hrr];exact hz)
        rw [List.drop_drop] at hsk
        have HSK:=Lib.hid hsk
        have t4:((m:Int) == (m:Int))=true:=by simp
        clear hword hz hrr HW hsk hcell
        go_wp2_with fail
        refine (HWd.out _).mono ?_
        rintro e w2 ⟨rfl,rfl⟩
        clear HWd
        go_wp2_with fail
        go_roundw
        case rel=>exact ⟨m+1,ss,by omega,by go_num,HSK,HO,HB⟩
        case measure=>simp [intOf];omega
       ·go_wp2_with fail
        refine (HWd.out _).mono ?_
        rintro e w2 ⟨rfl,rfl⟩
        have HB2:=HB
        have HO2:=HO
        clear hword HWd hcell
        have hst:=far_row HF.out (j:=m - k) (by rw [List.length_drop];omega) (by omega) HW.out (.inr (by rw [List.getD_eq_getElem?_getD,List.getElem?_drop,show k+(m - k)=m by omega,← List.getD_eq_getElem?_getD,hrr];exact hz))
        rw [List.drop_drop,show k+(m - k)=m by omega] at hst
        have hrow:=(((HI.out.drop2 k (by omega)).2 (by omega)).take (m - k) (by omega)).below (HB2.out)
        have hcu:=rcut_any _ _ _ (hrow.row (HB2.out.size)) (by rw [List.length_take,List.length_drop];omega)
        obtain ⟨X,hX⟩:∃ X,cutW ((zs.drop k).take (m - k))=X:=⟨_,rfl⟩
        rw [hX] at hst hcu
        have HST:=Lib.hid hst
        have HCU:=Lib.hid hcu
        have hf2:=HF.out.2
        have t4:((m:Int) == (k:Int))=false:=by simp;omega
        have i1:(k:Int)≤(m:Int):=by omega
        have i2:(m:Int)≤(cap:Int):=by omega
        have i3:((m:Int) - (k:Int)).toNat=m - k:=by omega
        clear hst hcu hrow hX HW
        go_wp2_with fail
        refine HCU.out.mono ?_
        rintro e w3 ⟨rfl,hb3⟩
        have HO3:=Lib.hid (HO2.out.keep hb3)
        have HB3:=Lib.hid (HB2.out.trans (hb3.mono HB2.out.size))
        have hsz3:=HB3.out.size
        have hlen:=HO3.out.shape
        obtain ⟨q,capq,rfl,hqc,hqm⟩:=hlen
        rw [numT_len] at hqc HO3 ⊢
        clear hb3 HCU
        go_wp2_with (at_builtin;refine wpList_append_tok rfl _ _ rfl w1.heap.size _ (numT ss) w3 X (ss.length:Int) rfl rfl HO3.out rfl (by rw [numT_len];omega) hsz3 ?_)
        intro v4 w4 hown4 hb4
        rw [← numT_snoc] at hown4
        have HO4:=Lib.hid hown4
        have HB4:=Lib.hid (HB3.out.trans hb4)
        clear hown4 hb4
        go_wp2_with fail
        go_roundw
        case rel=>exact ⟨m,ss++[X],by omega,rfl,HST,HO4,HB4⟩
        case measure=>simp [intOf];omega
    ·obtain rfl:m=zs.length:=by omega
     have t2:decide ((zs.length:Int)<(zs.length:Int))=false:=by simp
     have hst:=far_row HF.out (j:=zs.length - k) (by rw [List.length_drop];omega) (by omega) HW.out (.inl (by rw [List.length_drop]))
     rw [List.drop_drop,show k+(zs.length - k)=zs.length by omega] at hst
     have hrow:=(((HI.out.drop2 k (by omega)).2 (by omega)).take (zs.length - k) (by omega)).below (HB.out)
     have hcu:=rcut_any _ _ _ (hrow.row (HB.out.size)) (by rw [List.length_take,List.length_drop];omega)
     obtain ⟨X,hX⟩:∃ X,cutW ((zs.drop k).take (zs.length - k))=X:=⟨_,rfl⟩
     rw [hX] at hst hcu
     have HST:=Lib.hid hst
     have HCU:=Lib.hid hcu
     have hf2:=HF.out.2
     have t4:((zs.length:Int) == (k:Int))=false:=by simp;omega
     have i1:(k:Int)≤(zs.length:Int):=by omega
     have i2:(zs.length:Int)≤(cap:Int):=by omega
     have i3:((zs.length:Int) - (k:Int)).toNat=zs.length - k:=by omega
     clear hst hcu hrow hX HW
     go_wp2_with fail
     refine HCU.out.mono ?_
     rintro e w3 ⟨rfl,hb3⟩
     have HO3:=Lib.hid (HO.out.keep hb3)
     have HB3:=Lib.hid (HB.out.trans (hb3.mono HB.out.size))
     have hsz3:=HB3.out.size
     have hlen:=HO3.out.shape
     obtain ⟨q,capq,rfl,hqc,hqm⟩:=hlen
     rw [numT_len] at hqc HO3 ⊢
     clear hb3 HCU
     go_wp2_with (at_builtin;refine wpList_append_tok rfl _ _ rfl w1.heap.size _ (numT ss) w3 X (ss.length:Int) rfl rfl HO3.out rfl (by rw [numT_len];omega) hsz3 ?_)
     intro v4 w4 hown4 hb4
     rw [← numT_snoc] at hown4
     have HO4:=Lib.hid hown4
     have HB4:=Lib.hid (HB3.out.trans hb4)
     clear hown4 hb4
     go_wp2_with fail
     go_roundw
     case rel=>exact ⟨zs.length,ss++[X],by omega,rfl,HST,HO4,HB4⟩
     case measure=>simp [intOf];omega
  ·obtain rfl:k=zs.length:=by omega
   have t1:decide ((zs.length:Int)<(zs.length:Int))=false:=by simp
   have hf:=HF.out.1
   rw [List.drop_length,wordsR_nil,List.append_nil] at hf
   subst hf
   have HK:=Lib.hid HO.out.krow
   have HBf:=Lib.hid (HB1.out.trans (HB.out.mono hsz1))
   clear HO HF
   go_wp2_with fail
   go_ret
   exact ⟨_,rfl,HK.out,HBf.out⟩
end Go.Proofs.YtidhgicajlaafaaGreat.TK
