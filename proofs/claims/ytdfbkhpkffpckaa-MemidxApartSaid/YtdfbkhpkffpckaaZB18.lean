import Derived.Test.YtdfbkhpkffpckaaZB6
set_option maxRecDepth 100000
set_option maxHeartbeats 8000000
set_option linter.unusedVariables false
set_option linter.unusedSimpArgs false
namespace Go.Proofs.Ytdfbkhpkffpckaa.MM
open Go.RowKit
theorem infoInt:(Try.prog.info? 3).map (fun i=>(i.zero,i.size,i.bytes))=some (some (.int .i64 0),1,8):=by kernel_rfl
def IRow (w:World) (v:Value) (zs:List Int):Prop:=Row w v (zs.map (Value.int .i64))
def OwnI (B:Nat) (w:World) (v:Value) (zs:List Int):Prop:=w.ownsRow B 3 1 v zs.length (zs.map (Value.int .i64))
theorem OwnI.irow {B:Nat} {w:World} {v:Value} {zs:List Int} (h:OwnI B w v zs):IRow w v zs:=Row.of_own h
theorem OwnI.keep {w w':World} {B:Nat} {v:Value} {zs:List Int} (h:OwnI B w v zs) (hb:Below w.heap.size w w'):OwnI B w' v zs:=own_keep (B:=0) h hb
theorem IRow.below {w w':World} {v:Value} {zs:List Int} (h:IRow w v zs) (hb:Below w.heap.size w w'):IRow w' v zs:=Row.below (B:=0) h hb
theorem IRow.shape {w:World} {v:Value} {zs:List Int} (h:IRow w v zs):∃ p cap,v=.slice p zs.length cap∧zs.length≤cap∧cap≤maxLen:=by
 obtain ⟨p,cap,hv,h1,h2,_,_⟩:=h
 rw [List.length_map] at hv h1
 exact ⟨p,cap,hv,h1,h2⟩
theorem IRow.at_ {w:World} {p:Option Addr} {n cap:Nat} {zs:List Int} (h:IRow w (.slice p n cap) zs) {k:Nat} (hk:k<zs.length) :
  ∃ b off,p=some ⟨b,off,none⟩∧b<w.heap.size∧w.cell? ⟨b,off+k,none⟩=some (.int .i64 (zs.getD k 0)):=by
 obtain ⟨p',cap',hv,_,_,_,h⟩:=h
 simp only [Value.slice.injEq] at hv
 obtain ⟨rfl,_,_⟩:=hv
 rcases h with h | ⟨b,off,hp,hlt,hc⟩
 ·have:zs=[]:=List.map_eq_nil_iff.1 h
  subst this
  simp at hk
 ·exact ⟨b,off,hp,hlt,hc k _ (by simp [List.getD,hk])⟩
theorem IRow.take {w:World} {p:Option Addr} {n cap:Nat} {zs:List Int} (h:IRow w (.slice p n cap) zs) (k:Nat) (hk:k≤n):IRow w (.slice p k cap) (zs.take k):=by
 have:=RowIn.take h k hk
 rw [← List.map_take] at this
 exact this
theorem wpList_append_int {w:World} {ops:Array Oper} {rest:List Oper} {o:Oper} {a:Act} {Q:Exit→Act→World→Prop} (hgd:o.guard=none) (s x:Operand)
  (ho:o.op=.call { callee:=.builtin .append,args:=#[s,x],argTypes:=#[27,27] }) (B:Nat) (v:Value) (zs:List Int) (w0:World) (z:Int) (hw:w=w0.alloc (.cells #[.int .i64 z] 3)) (hs:a.eval s=v) (hown:OwnI B w0 v zs)
  (hx:a.eval x=.slice (some ⟨w0.heap.size,0,none⟩) 1 1) (hlen:zs.length≤4398046511104) (hbase:B≤w0.heap.size)
  (h:∀ v' w',OwnI B w' v' (zs++[z])→Below B w0 w'→wpList Try.prog ops Q rest (a.put o.dst v') w'):wpList Try.prog ops Q (o::rest) a w:=by
 subst hw
 obtain ⟨i0,hi,hz0,hz1,hz2⟩:=info_parts infoInt
 have hlo:∀ k,v.ownBlock=some k→B≤k:=fun k hk=>(World.ownsRow.lt hown k hk).1
 refine wpList_append_own _ hgd s x 27 ho B 3 i0 (.int .i64 0) 1 8 Try.underlying27 hi hz0 hz1 hz2 rfl (by decide) v zs.length _ hs (World.ownsRow.alloc hown _) ⟨w0.heap.size,0,none⟩ 1 1 [.int .i64 z] hx rfl (cell_new1 _ _ _) (int_one _ _)
  (by unfold maxLen;omega) (by omega) (by simp;omega) (fun v' w' h1 hg _=>h v' w' ?_ (below_app (Below.refl B w0) hbase hlo hg))
 unfold OwnI
 rw [List.length_append,List.map_append]
 exact h1
end Go.Proofs.Ytdfbkhpkffpckaa.MM
namespace Go.Proofs.Ytdfbkhpkffpckaa.MM
open Go.RowKit
theorem infoStr:(Try.prog.info? 9).map (fun i=>(i.zero,i.size,i.bytes))=some (some (.string ⟨#[]⟩),1,16):=by kernel_rfl
def strV (l:List UInt8):Value:=.string ⟨l.toArray⟩
def TIn (B:Nat) (w:World) (v:Value) (ss:List (List UInt8)):Prop:=RowIn B w v (ss.map strV)
def TRow (w:World) (v:Value) (ss:List (List UInt8)):Prop:=TIn w.heap.size w v ss
def OwnT (B:Nat) (w:World) (v:Value) (ss:List (List UInt8)):Prop:=w.ownsRow B 9 1 v ss.length (ss.map strV)
theorem OwnT.trow {B:Nat} {w:World} {v:Value} {ss:List (List UInt8)} (h:OwnT B w v ss):TRow w v ss:=Row.of_own h
theorem OwnT.keep {w w':World} {B:Nat} {v:Value} {ss:List (List UInt8)} (h:OwnT B w v ss) (hb:Below w.heap.size w w'):OwnT B w' v ss:=own_keep (B:=0) h hb
theorem OwnT.weaken {w:World} {B B':Nat} {v:Value} {ss:List (List UInt8)} (h:OwnT B w v ss) (hB:B'≤B):OwnT B' w v ss:=by
 refine ⟨h.1,?_⟩
 rcases h.2 with h0 | ⟨g,cap,cur,hv,hg,rest⟩
 ·exact .inl h0
 ·exact .inr ⟨g,cap,cur,hv,Nat.le_trans hB hg,rest⟩
theorem OwnT.nil_ (B:Nat) (w:World):OwnT B w (.slice none 0 0) []:=World.ownsRow_nil _ _ _ _
theorem OwnT.shape {w:World} {B:Nat} {v:Value} {ss:List (List UInt8)} (h:OwnT B w v ss):∃ p cap,v=.slice p ss.length cap∧ss.length≤cap∧cap≤maxLen:=by
 obtain ⟨p,cap,hv,h1,h2,_,_⟩:=h.trow
 rw [List.length_map] at hv h1
 exact ⟨p,cap,hv,h1,h2⟩
theorem TRow.below {w w':World} {v:Value} {ss:List (List UInt8)} (h:TRow w v ss) (hb:Below w.heap.size w w'):TRow w' v ss:=Row.below (B:=0) h hb
theorem TIn.below {B:Nat} {w w':World} {v:Value} {ss:List (List UInt8)} (h:TIn B w v ss) (hb:Below B w w'):TIn B w' v ss:=RowIn.below h hb
theorem TIn.mono {B B':Nat} {w:World} {v:Value} {ss:List (List UInt8)} (h:TIn B w v ss) (hB:B≤B'):TIn B' w v ss:=RowIn.mono h hB
theorem TIn.shape {B:Nat} {w:World} {v:Value} {ss:List (List UInt8)} (h:TIn B w v ss):∃ p cap,v=.slice p ss.length cap∧ss.length≤cap∧cap≤maxLen:=by
 obtain ⟨p,cap,hv,h1,h2,_,_⟩:=h
 rw [List.length_map] at hv h1
 exact ⟨p,cap,hv,h1,h2⟩
theorem TIn.at_ {B:Nat} {w:World} {p:Option Addr} {n cap:Nat} {ss:List (List UInt8)} (h:TIn B w (.slice p n cap) ss) {k:Nat} (hk:k<ss.length) :
  ∃ b off,p=some ⟨b,off,none⟩∧b<B∧w.cell? ⟨b,off+k,none⟩=some (.string ⟨(ss[k]).toArray⟩):=by
 obtain ⟨p',cap',hv,_,_,_,h⟩:=h
 simp only [Value.slice.injEq] at hv
 obtain ⟨rfl,_,_⟩:=hv
 rcases h with h | ⟨b,off,hp,hlt,hc⟩
 ·have:ss=[]:=List.map_eq_nil_iff.1 h
  subst this
  simp at hk
 ·exact ⟨b,off,hp,hlt,hc k _ (by simp [hk,strV])⟩
theorem wpList_append_str {w:World} {ops:Array Oper} {rest:List Oper} {o:Oper} {a:Act} {Q:Exit→Act→World→Prop} (hgd:o.guard=none) (s x:Operand)
  (ho:o.op=.call { callee:=.builtin .append,args:=#[s,x],argTypes:=#[158,158] }) (B:Nat) (v:Value) (ss:List (List UInt8)) (w0:World) (z:List UInt8) (hw:w=w0.alloc (.cells #[.string ⟨z.toArray⟩] 9)) (hs:a.eval s=v) (hown:OwnT B w0 v ss)
  (hx:a.eval x=.slice (some ⟨w0.heap.size,0,none⟩) 1 1) (hlen:ss.length≤1000000000000) (hbase:B≤w0.heap.size)
  (h:∀ v' w',OwnT B w' v' (ss++[z])→Below B w0 w'→wpList Try.prog ops Q rest (a.put o.dst v') w'):wpList Try.prog ops Q (o::rest) a w:=by
 subst hw
 obtain ⟨i0,hi,hz0,hz1,hz2⟩:=info_parts infoStr
 have hlo:∀ k,v.ownBlock=some k→B≤k:=fun k hk=>(World.ownsRow.lt hown k hk).1
 refine wpList_append_own _ hgd s x 158 ho B 9 i0 (.string ⟨#[]⟩) 1 16 Try.underlying158 hi hz0 hz1 hz2 rfl (by decide) v ss.length _ hs (World.ownsRow.alloc hown _) ⟨w0.heap.size,0,none⟩ 1 1 [.string ⟨z.toArray⟩] hx rfl (cell_new1 _ _ _) (by intro u hu;simp at hu;subst hu;rfl)
  (by unfold maxLen;omega) (by omega) (by simp;omega) (fun v' w' h1 hg _=>h v' w' ?_ (below_app (Below.refl B w0) hbase hlo hg))
 unfold OwnT
 rw [List.length_append,List.map_append]
 exact h1
end Go.Proofs.Ytdfbkhpkffpckaa.MM
