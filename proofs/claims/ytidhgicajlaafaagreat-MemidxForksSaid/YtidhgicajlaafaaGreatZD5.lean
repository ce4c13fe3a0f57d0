import Derived.Test.YtidhgicajlaafaaGreatZD4
import Derived.Test.YtidhgicajlaafaaGreatZD1
set_option maxRecDepth 100000
set_option maxHeartbeats 8000000
set_option linter.unusedVariables false
set_option linter.unusedSimpArgs false
namespace Go.Proofs.YtidhgicajlaafaaGreat.TK
open Go.Lib UM
def lowB (r:Int):List UInt8:=encodeRune (lowerZ r)
def cutGo:Nat→List Int→List UInt8
 | _,[]=>[]
 | m,r::t=>if (lowB r).length≤m then lowB r++cutGo (m - (lowB r).length) t else []
def cutW (row:List Int):List UInt8:=cutGo 32 row
def lowL (row:List Int):List UInt8:=encL (row.map lowerZ)
theorem lowL_nil:lowL []=[]:=rfl
theorem lowL_cons (r:Int) (t:List Int):lowL (r::t)=lowB r++lowL t:=rfl
theorem enc_len (r:Int):1≤(encodeRune r).length∧(encodeRune r).length≤4:=by
 have:=encodeRuneZ_length r
 have h2:(encodeRune r).length=(encodeRuneZ r).length:=by simp [encodeRune]
 omega
theorem lowB_len (r:Int):1≤(lowB r).length∧(lowB r).length≤4:=enc_len _
theorem lowL_len (l:List Int):l.length≤(lowL l).length∧(lowL l).length≤4*l.length:=by
 induction l with
 | nil=>simp [lowL,encL]
 | cons r t ih =>
   have:=lowB_len r
   rw [lowL_cons,List.length_append,List.length_cons]
   omega
theorem cutGo_take:∀ (l:List Int) (m n:Nat),n≤l.length→(lowL (l.take n)).length≤m→(n=l.length∨m<(lowL (l.take (n+1))).length)→cutGo m l=lowL (l.take n)
 | [],m,n,h,_,_=>by simp [cutGo,lowL,encL]
 | r::t,m,0,h,h1,h2=>by
   have:=lowB_len r
   rcases h2 with h2 | h2
   ·simp at h2
   ·simp [lowL_cons,lowL_nil] at h2
    rw [cutGo,if_neg (by omega)]
    simp [lowL_nil]
 | r::t,m,n+1,h,h1,h2=>by
   simp [lowL_cons] at h1 h2 h
   rw [cutGo,if_pos (by omega),List.take_succ_cons,lowL_cons,cutGo_take t (m - (lowB r).length) n h (by omega) (by omega)]
theorem cutW_take (l:List Int) (n:Nat) (h:n≤l.length) (h1:(lowL (l.take n)).length≤32) (h2:n=l.length∨32<(lowL (l.take (n+1))).length):cutW l=lowL (l.take n) :=
 cutGo_take l 32 n h h1 h2
theorem cutGo_form:∀ (l:List Int) (m:Nat),∃ n,n≤l.length∧cutGo m l=lowL (l.take n)∧(lowL (l.take n)).length≤m∧(4≤m→l≠[]→1≤n)
 | [],m=>⟨0,by simp,by simp [cutGo,lowL_nil],by simp [lowL_nil],fun _ h=>absurd rfl h⟩
 | r::t,m=>by
   have h4:=lowB_len r
   by_cases hm:(lowB r).length≤m
   ·obtain ⟨n,h0,h1,h2,_⟩:=cutGo_form t (m - (lowB r).length)
    refine ⟨n+1,by simp;omega,?_,?_,fun _ _=>by omega⟩
    ·rw [cutGo,if_pos hm,h1,List.take_succ_cons,lowL_cons]
    ·rw [List.take_succ_cons,lowL_cons,List.length_append];omega
   ·refine ⟨0,by simp,?_,by simp [lowL_nil],fun h=>by omega⟩
    rw [cutGo,if_neg hm];simp [lowL_nil]
theorem cutW_form (l:List Int):∃ n,n≤l.length∧cutW l=lowL (l.take n)∧(lowL (l.take n)).length≤32∧(l≠[]→1≤n):=by
 obtain ⟨n,h0,h1,h2,h3⟩:=cutGo_form l 32
 exact ⟨n,h0,h1,h2,h3 (by omega)⟩
def one (l:List Int):List (List Int):=if l=[] then [] else [l]
def rowsAcc:List Int→List Int→List (List Int)
 | acc,[]=>one acc
 | acc,r::t=>if wordZ r=true then rowsAcc (acc++[r]) t else one acc++rowsAcc [] t
def rowsL (l:List Int):List (List Int):=rowsAcc [] l
def wordsR (l:List Int):List (List UInt8):=(rowsL l).map cutW
def wordsB (b:List UInt8):List (List UInt8):=wordsR (runesL b)
theorem one_nil:one []=[]:=rfl
theorem one_ne {l:List Int} (h:l≠[]):one l=[l]:=by simp [one,h]
theorem rowsAcc_row:∀ (p acc t:List Int),(∀ r∈p,wordZ r=true)→rowsAcc acc (p++t)=rowsAcc (acc++p) t
 | [],acc,t,_=>by simp
 | r::p,acc,t,h=>by
   rw [List.cons_append,rowsAcc,if_pos (h r (by simp)),rowsAcc_row p _ t (fun x hx=>h x (by simp [hx])),List.append_assoc];rfl
theorem rowsL_all {p:List Int} (h:∀ r∈p,wordZ r=true):rowsL p=one p:=by
 have:=rowsAcc_row p [] [] h
 rw [List.append_nil] at this
 rw [rowsL,this,List.nil_append];rfl
theorem rowsL_part {p t:List Int} {r:Int} (h:∀ r∈p,wordZ r=true) (hr:wordZ r=false):rowsL (p++r::t)=one p++rowsL t:=by
 rw [rowsL,rowsAcc_row p [] _ h,List.nil_append,rowsAcc,if_neg (by simp [hr])];rfl
theorem rowsAcc_good:∀ (l acc:List Int),(∀ r∈acc,wordZ r=true)→∀ p∈rowsAcc acc l,p≠[]∧∀ r∈p,wordZ r=true
 | [],acc,h,p,hp=>by
   unfold rowsAcc one at hp
   split at hp
   ·simp at hp
   ·simp at hp;subst hp;exact ⟨by assumption,h⟩
 | r::t,acc,h,p,hp=>by
   unfold rowsAcc at hp
   split at hp
   ·rename_i hr
    exact rowsAcc_good t _ (fun x hx=>by simp at hx;rcases hx with hx | hx;exact h x hx;subst hx;exact hr) p hp
   ·rw [List.mem_append] at hp
    rcases hp with hp | hp
    ·unfold one at hp
     split at hp
     ·simp at hp
     ·simp at hp;subst hp;exact ⟨by assumption,h⟩
    ·exact rowsAcc_good t [] (by simp) p hp
theorem rowsL_good (l:List Int):∀ p∈rowsL l,p≠[]∧∀ r∈p,wordZ r=true:=rowsAcc_good l [] (by simp)
theorem rowsAcc_count:∀ (l acc:List Int),(rowsAcc acc l).length≤acc.length+l.length
 | [],acc=>by
   unfold rowsAcc one
   split
   ·simp
   ·rename_i h
    have:=List.length_pos_iff.2 h
    simp;omega
 | r::t,acc=>by
   unfold rowsAcc
   split
   ·have:=rowsAcc_count t (acc++[r])
    simp at this
    simp;omega
   ·have:=rowsAcc_count t []
    have h1:(one acc).length≤acc.length:=by
     unfold one
     split
     ·simp
     ·rename_i h
      have:=List.length_pos_iff.2 h
      simp;omega
    simp at this
    simp;omega
theorem wordsR_count (l:List Int):(wordsR l).length≤l.length:=by
 have:=rowsAcc_count l []
 simp at this
 unfold wordsR rowsL
 rw [List.length_map];exact this
theorem wordsB_count (b:List UInt8):(wordsB b).length≤b.length:=Nat.le_trans (wordsR_count _) (runesL_length b)
theorem wordZ_lower (r:Int):wordZ (lowerZ r)=wordZ r:=by
 unfold wordZ lowerZ
 repeat' split
 all_goals first | rfl | (congr 1;simp;omega)
theorem norm_word {r:Int} (h:wordZ r=true):norm r=r:=by
 unfold wordZ at h
 simp at h
 exact norm_of_good r (by omega)
def Good (zs:List Int):Prop:=zs≠[]∧(∀ z∈zs,wordZ z=true)∧(∀ z∈zs,lowerZ z=z)∧(encL zs).length≤32
theorem Good.norm {zs:List Int} (h:Good zs):zs.map norm=zs:=by
 have:∀ z∈zs,UM.norm z=z:=fun z hz=>norm_word (h.2.1 z hz)
 rw [List.map_congr_left this,List.map_id'']
 intro;rfl
theorem Good.low {zs:List Int} (h:Good zs):lowL zs=encL zs:=by
 have:∀ z∈zs,lowerZ z=id z:=h.2.2.1
 unfold lowL
 rw [List.map_congr_left this,List.map_id]
theorem Good.cut {zs:List Int} (h:Good zs):cutW zs=encL zs:=by
 rw [cutW_take zs zs.length (Nat.le_refl _) (by rw [List.take_length,h.low];exact h.2.2.2) (.inl rfl),List.take_length,h.low]
theorem Good.self {zs:List Int} (h:Good zs):wordsB (encL zs)=[encL zs]:=by
 unfold wordsB wordsR
 rw [runes_enc,h.norm,rowsL_all h.2.1,one_ne h.1,List.map_singleton,h.cut]
theorem good_of_row {p:List Int} (hne:p≠[]) (h:∀ r∈p,wordZ r=true):∃ zs,Good zs∧cutW p=encL zs:=by
 obtain ⟨n,hn,h1,h2,h3⟩:=cutW_form p
 refine ⟨(p.take n).map lowerZ,⟨?_,?_,?_,h2⟩,h1⟩
 ·have:=h3 hne
  have hp:=List.length_pos_iff.2 hne
  intro h0
  have h9:=congrArg List.length h0
  rw [List.length_map,List.length_take,List.length_nil] at h9
  omega
 ·intro z hz
  obtain ⟨r,hr,rfl⟩:=List.mem_map.1 hz
  rw [wordZ_lower]
  exact h r (List.mem_of_mem_take hr)
 ·intro z hz
  obtain ⟨r,hr,rfl⟩:=List.mem_map.1 hz
  exact lower_lower r
theorem words_good (l:List Int):∃ Z:List (List Int),wordsR l=Z.map encL∧∀ zs∈Z,Good zs:=by
 unfold wordsR
 have hg:=rowsL_good l
 generalize rowsL l=P at hg
 induction P with
 | nil=>exact ⟨[],rfl,by simp⟩
 | cons p P ih =>
   obtain ⟨Z,h1,h2⟩:=ih (fun q hq=>hg q (by simp [hq]))
   obtain ⟨zs,hz,e⟩:=good_of_row (hg p (by simp)).1 (hg p (by simp)).2
   exact ⟨zs::Z,by rw [List.map_cons,List.map_cons,h1,e],fun q hq=>by simp at hq;rcases hq with rfl | hq;exact hz;exact h2 q hq⟩
theorem word_self (l:List UInt8):∀ x∈wordsB l,wordsB x=[x]∧x.length≤32:=by
 intro x hx
 obtain ⟨Z,h1,h2⟩:=words_good (runesL l)
 unfold wordsB at hx
 rw [h1] at hx
 obtain ⟨zs,hz,rfl⟩:=List.mem_map.1 hx
 exact ⟨(h2 zs hz).self,(h2 zs hz).2.2.2⟩
def nameByte (c:UInt8):Bool:=decide ((97≤c.toNat∧c.toNat≤122)∨(48≤c.toNat∧c.toNat≤57)∨c.toNat=95)
def nameL (l:List UInt8):Bool:=decide (1≤l.length∧l.length≤32)&&l.all nameByte
def nameRune (r:Int):Bool:=decide ((97≤r∧r≤122)∨(48≤r∧r≤57)∨r=95)
end Go.Proofs.YtidhgicajlaafaaGreat.TK
namespace Go.Proofs.YtidhgicajlaafaaGreat.EM
open Go VM
open TK (nameL)
abbrev Fld:=List UInt8×List UInt8
abbrev Ev:=Int×List Fld
abbrev Bat:=Int×List Ev
def checkF:List Fld→Int
 | []=>0
 | f::r=>if nameL f.1=false then 100 else if 4096<f.2.length then 2 else checkF r
def checkE (e:Ev):Int:=if 16<e.2.length then 3 else checkF e.2
theorem checkF_next {fs:List Fld} {k:Nat} (hk:k<fs.length):checkF (fs.drop k)=if nameL fs[k].1=false then 100 else if 4096<fs[k].2.length then 2 else checkF (fs.drop (k+1)):=by
 rw [List.drop_eq_getElem_cons hk,checkF]
theorem checkF_ok:∀ {fs:List Fld},checkF fs=0↔∀ f∈fs,nameL f.1=true∧f.2.length≤4096
 | []=>by simp [checkF]
 | f::r=>by
   rw [checkF]
   have ih:=@checkF_ok r
   constructor
   ·intro h
    split at h
    ·omega
    ·split at h
     ·omega
     ·rename_i h1 h2
      intro g hg
      rcases List.mem_cons.1 hg with rfl | hg
      ·exact ⟨by simpa using h1,by omega⟩
      ·exact ih.1 h g hg
   ·intro h
    obtain ⟨h1,h2⟩:=h f (by simp)
    rw [if_neg (by simp [h1]),if_neg (by omega)]
    exact ih.2 fun g hg=>h g (by simp [hg])
theorem checkE_ok {e:Ev}:checkE e=0↔e.2.length≤16∧∀ f∈e.2,nameL f.1=true∧f.2.length≤4096:=by
 unfold checkE
 constructor
 ·intro h
  split at h
  ·omega
  ·exact ⟨by omega,checkF_ok.1 h⟩
 ·intro h
  rw [if_neg (by omega)]
  exact checkF_ok.2 h.2
theorem name_len {n:List UInt8} (h:nameL n=true):n.length≤32:=by
 unfold TK.nameL at h
 simp at h
 omega
def sizeF (fs:List Fld):Nat:=(fs.map fun f=>f.1.length+f.2.length).sum
def sizeE (e:Ev):Nat:=16+sizeF e.2
theorem sizeF_next {fs:List Fld} {k:Nat} (hk:k<fs.length):sizeF (fs.take (k+1))=sizeF (fs.take k)+fs[k].1.length+fs[k].2.length:=by
 unfold sizeF
 rw [List.take_succ_eq_append_getElem hk,List.map_append,List.sum_append]
 simp
 omega
theorem sizeF_of_ok:∀ {fs:List Fld},(∀ f∈fs,nameL f.1=true∧f.2.length≤4096)→sizeF fs≤4128*fs.length
 | [],_=>by simp [sizeF]
 | f::r,h=>by
   have h1:=h f (by simp)
   have h2:=name_len h1.1
   have ih:=sizeF_of_ok (fs:=r) fun g hg=>h g (by simp [hg])
   have e:sizeF (f::r)=f.1.length+f.2.length+sizeF r:=by simp [sizeF]
   rw [e,List.length_cons]
   omega
def checkEs:List Ev→Int
 | []=>0
 | e::r=>if checkE e≠0 then checkE e else checkEs r
theorem checkEs_next {es:List Ev} {k:Nat} (hk:k<es.length):checkEs (es.drop k)=if checkE es[k]≠0 then checkE es[k] else checkEs (es.drop (k+1)):=by
 rw [List.drop_eq_getElem_cons hk,checkEs]
theorem checkEs_ok:∀ {es:List Ev},checkEs es=0↔∀ e∈es,checkE e=0
 | []=>by simp [checkEs]
 | e::r=>by
   rw [checkEs]
   have ih:=@checkEs_ok r
   constructor
   ·intro h
    split at h
    ·rename_i h1;exact absurd h h1
    ·rename_i h1
     intro g hg
     rcases List.mem_cons.1 hg with rfl | hg
     ·simpa using h1
     ·exact ih.1 h g hg
   ·intro h
    rw [if_neg (by simpa using h e (by simp))]
    exact ih.2 fun g hg=>h g (by simp [hg])
def sizeB (es:List Ev):Nat:=(es.map sizeE).sum
theorem sizeB_next {es:List Ev} {k:Nat} (hk:k<es.length):sizeB (es.take (k+1))=sizeB (es.take k)+sizeE es[k]:=by
 unfold sizeB
 rw [List.take_succ_eq_append_getElem hk,List.map_append,List.sum_append]
 simp
def checkB (b:Bat):Int :=
 if b.2.length=0 then 1 else if 64<b.2.length then 3 else if checkEs b.2≠0 then checkEs b.2
 else if 65536<sizeB b.2 then 2 else if b.1<1∨1099511627776 - ((b.2.length:Int) - 1)<b.1 then 5 else 0
theorem checkB_ok {b:Bat} (h:checkB b=0):1≤b.2.length∧b.2.length≤64∧(∀ e∈b.2,checkE e=0)∧sizeB b.2≤65536∧1≤b.1∧b.1≤1099511627776 - ((b.2.length:Int) - 1):=by
 unfold checkB at h
 split at h
 ·omega
 ·split at h
  ·omega
  ·split at h
   ·rename_i h3;exact absurd h h3
   ·split at h
    ·omega
    ·split at h
     ·omega
     ·rename_i h1 h2 h3 h4 h5
      exact ⟨by omega,by omega,checkEs_ok.1 (by simpa using h3),by omega,by omega,by omega⟩
end Go.Proofs.YtidhgicajlaafaaGreat.EM
namespace Go.Proofs.YtidhgicajlaafaaGreat.MM
open Go.RowKit
theorem infoStr:(Tryz.prog.info? 9).map (fun i=>(i.zero,i.size,i.bytes))=some (some (.string ⟨#[]⟩),1,16):=by kernel_rfl
def strV (l:List UInt8):Value:=.string ⟨l.toArray⟩
def TIn (B:Nat) (w:World) (v:Value) (ss:List (List UInt8)):Prop:=RowIn B w v (ss.map strV)
def TRow (w:World) (v:Value) (ss:List (List UInt8)):Prop:=TIn w.heap.size w v ss
def OwnT (B:Nat) (w:World) (v:Value) (ss:List (List UInt8)):Prop:=w.ownsRow B 9 1 v ss.length (ss.map strV)
theorem OwnT.trow {B:Nat} {w:World} {v:Value} {ss:List (List UInt8)} (h:OwnT B w v ss):TRow w v ss:=Row.of_own h
theorem OwnT.keep {w w':World} {B:Nat} {v:Value} {ss:List (List UInt8)} (h:OwnT B w v ss) (hb:Below w.heap.size w w'):OwnT B w' v ss:=own_keep (B:=0) h hb
theorem OwnT.weaken {w:World} {B B':Nat} {v:Value} {ss:List (List UInt8)} (h:OwnT B w v ss) (hB:B'≤B):OwnT B' w v ss:=by
 refine ⟨h.1,?_⟩
 rcases h.2 with h0 | ⟨g,cap,cur,hv,hg,rest⟩
 ·exact .inl h0
 ·exact .inr ⟨g,cap,cur,hv,Nat.le_trans hB hg,rest⟩
theorem OwnT.nil_ (B:Nat) (w:World):OwnT B w (.slice none 0 0) []:=World.ownsRow_nil _ _ _ _
theorem OwnT.shape {w:World} {B:Nat} {v:Value} {ss:List (List UInt8)} (h:OwnT B w v ss):∃ p cap,v=.slice p ss.length cap∧ss.length≤cap∧cap≤maxLen:=by
 obtain ⟨p,cap,hv,h1,h2,_,_⟩:=h.trow
 rw [List.length_map] at hv h1
 exact ⟨p,cap,hv,h1,h2⟩
theorem TRow.below {w w':World} {v:Value} {ss:List (List UInt8)} (h:TRow w v ss) (hb:Below w.heap.size w w'):TRow w' v ss:=Row.below (B:=0) h hb
theorem TIn.below {B:Nat} {w w':World} {v:Value} {ss:List (List UInt8)} (h:TIn B w v ss) (hb:Below B w w'):TIn B w' v ss:=RowIn.below h hb
theorem TIn.mono {B B':Nat} {w:World} {v:Value} {ss:List (List UInt8)} (h:TIn B w v ss) (hB:B≤B'):TIn B' w v ss:=RowIn.mono h hB
theorem TIn.shape {B:Nat} {w:World} {v:Value} {ss:List (List UInt8)} (h:TIn B w v ss):∃ p cap,v=.slice p ss.length cap∧ss.length≤cap∧cap≤maxLen:=by
 obtain ⟨p,cap,hv,h1,h2,_,_⟩:=h
 rw [List.length_map] at hv h1
 exact ⟨p,cap,hv,h1,h2⟩
theorem TIn.at_ {B:Nat} {w:World} {p:Option Addr} {n cap:Nat} {ss:List (List UInt8)} (h:TIn B w (.slice p n cap) ss) {k:Nat} (hk:k<ss.length) :
  ∃ b off,p=some ⟨b,off,none⟩∧b<B∧w.cell? ⟨b,off+k,none⟩=some (.string ⟨(ss[k]).toArray⟩):=by
 obtain ⟨p',cap',hv,_,_,_,h⟩:=h
 simp only [Value.slice.injEq] at hv
 obtain ⟨rfl,_,_⟩:=hv
 rcases h with h | ⟨b,off,hp,hlt,hc⟩
 ·have:ss=[]:=List.map_eq_nil_iff.1 h
  subst this
  simp at hk
 ·exact ⟨b,off,hp,hlt,hc k _ (by simp [hk,strV])⟩
theorem wpList_append_str {w:World} {ops:Array Oper} {rest:List Oper} {o:Oper} {a:Act} {Q:Exit→Act→World→Prop} (hgd:o.guard=none) (s x:Operand)
  (ho:o.op=.call { callee:=.builtin .append,args:=#[s,x],argTypes:=#[36,36] }) (B:Nat) (v:Value) (ss:List (List UInt8)) (w0:World) (z:List UInt8) (hw:w=w0.alloc (.cells #[.string ⟨z.toArray⟩] 9)) (hs:a.eval s=v) (hown:OwnT B w0 v ss)
  (hx:a.eval x=.slice (some ⟨w0.heap.size,0,none⟩) 1 1) (hlen:ss.length≤1000000000000) (hbase:B≤w0.heap.size)
  (h:∀ v' w',OwnT B w' v' (ss++[z])→Below B w0 w'→wpList Tryz.prog ops Q rest (a.put o.dst v') w'):wpList Tryz.prog ops Q (o::rest) a w:=by
 subst hw
 obtain ⟨i0,hi,hz0,hz1,hz2⟩:=info_parts infoStr
 have hlo:∀ k,v.ownBlock=some k→B≤k:=fun k hk=>(World.ownsRow.lt hown k hk).1
 refine wpList_append_own _ hgd s x 36 ho B 9 i0 (.string ⟨#[]⟩) 1 16 Tryz.underlying36 hi hz0 hz1 hz2 rfl (by decide) v ss.length _ hs (World.ownsRow.alloc hown _) ⟨w0.heap.size,0,none⟩ 1 1 [.string ⟨z.toArray⟩] hx rfl (cell_new1 _ _ _) (by intro u hu;simp at hu;subst hu;rfl)
  (by unfold maxLen;omega) (by omega) (by simp;omega) (fun v' w' h1 hg _=>h v' w' ?_ (below_app (Below.refl B w0) hbase hlo hg))
 unfold OwnT
 rw [List.length_append,List.map_append]
 exact h1
end Go.Proofs.YtidhgicajlaafaaGreat.MM
