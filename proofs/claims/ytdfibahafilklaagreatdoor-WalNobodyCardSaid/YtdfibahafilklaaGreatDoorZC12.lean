import Derived.Test.YtdfibahafilklaaGreatDoorZC11
set_option maxRecDepth 100000
set_option maxHeartbeats 8000000
set_option linter.unusedVariables false
set_option linter.unusedSimpArgs false
namespace Go.Proofs.YtdfibahafilklaaGreatDoor.WM
open Go VM
open EM (Ev Bat)
def FollowW (l:List Bat):Prop:=∀ b r,l=b::r→chainT b.1 l=l
theorem scans_chain {p:Option Int} {l:List UInt8} {bs:List Bat} {k:Nat} {e:Int} (h:Scans p l bs k e):(∀ n,p=some n→chainT n bs=bs)∧FollowW bs:=by
 induction h with
 | none_=>exact ⟨fun _ _=>rfl,fun b r h=>by cases h⟩
 | stop _ _ _=>exact ⟨fun _ _=>rfl,fun b r h=>by cases h⟩
 | odd _ _=>exact ⟨fun _ _=>rfl,fun b r h=>by cases h⟩
 | more _ _ hp _ ih =>
   rename_i b bs k e _ _ _
   have h1:=ih.1 _ rfl
   refine ⟨fun n hn => ?_,fun b' r' h => ?_⟩
   ·rw [chainT,if_pos (hp n hn),← hp n hn,h1]
   ·obtain ⟨rfl,rfl⟩:=List.cons.inj h
    rw [chainT,if_pos rfl,h1]
def behindW (l:List Bat) (s:Int):Int:=match l.getLast? with
 | none=>s
 | some b=>b.1+(b.2.length:Int)
theorem behind_next:∀ (l:List Bat) (s:Int),chainT s l=l→behindW l s=nextW s l
 | [],_,_=>rfl
 | b::r,s,h=>by
   rw [chainT] at h
   split at h
   ·rename_i e
    have h1:=behind_next r _ (List.cons.inj h).2
    rw [nextW,← h1]
    cases r with
    | nil =>
      show b.1+_=s+_
      rw [e]
      rfl
    | cons c r=>rfl
   ·cases h
theorem chainT_le:∀ (l:List Bat) (s:Int),(chainT s l).length≤l.length
 | [],_=>Nat.le_refl _
 | b::r,s=>by
   rw [chainT]
   split
   ·rw [List.length_cons,List.length_cons]
    exact Nat.succ_le_succ (chainT_le r _)
   ·exact Nat.zero_le _
def repC (next:Int) (x:List Bat×Bool) (told:List Bat):List Bat×Bool :=
 if x.2=true then x else match told with
 | []=>x
 | b::_=>if b.1=behindW x.1 next then (x.1++told,false) else (x.1,true)
theorem rep_step {next:Int} {x:List Bat×Bool} {seen told:List Bat} (h1:chainT next seen=x.1) (h2:x.2=false→x.1=seen) (h3:x.2=true→chainT next seen≠seen) (hf:FollowW told) :
  chainT next (seen++told)=(repC next x told).1∧((repC next x told).2=false→(repC next x told).1=seen++told)∧((repC next x told).2=true→chainT next (seen++told)≠seen++told):=by
 obtain ⟨all,ended⟩:=x
 dsimp only at h1 h2 h3
 unfold repC
 dsimp only
 cases ended with
 | true =>
   rw [if_pos rfl]
   have h4:=h3 rfl
   rw [chainT_cut told h4]
   refine ⟨h1,fun h=>(by cases h),fun _ e=>h4 ?_⟩
   have h5:=congrArg List.length e
   have h6:(chainT next seen).length≤seen.length:=chainT_le seen next
   rw [List.length_append] at h5
   have h7:told=[]:=List.eq_nil_of_length_eq_zero (by omega)
   rw [h7,List.append_nil] at e
   exact e
 | false =>
   have h4:=h2 rfl
   subst h4
   rw [if_neg (by decide)]
   cases told with
   | nil=>rw [List.append_nil];exact ⟨h1,fun _=>rfl,fun h=>by cases h⟩
   | cons b r =>
     dsimp only
     have h5:=chainT_all (b::r) h1
     have hb:=behind_next all next h1
     by_cases e:b.1=behindW all next
     ·rw [if_pos e]
      have h6:=hf b r rfl
      rw [e,hb] at h6
      rw [h6] at h5
      exact ⟨h5,fun _=>rfl,fun h=>by cases h⟩
     ·rw [if_neg e]
      have h6:chainT (nextW next all) (b::r)=[]:=by rw [chainT,if_neg (by rw [← hb];exact e)]
      rw [h6,List.append_nil] at h5
      refine ⟨h5,fun h=>(by cases h),fun _ h => ?_⟩
      rw [h5] at h
      have:=congrArg List.length h
      simp at this
theorem rep_all {next:Int}:∀ (fs:List (List Bat)) {x:List Bat×Bool} {seen:List Bat},(∀ f∈fs,FollowW f)→chainT next seen=x.1→(x.2=false→x.1=seen)→(x.2=true→chainT next seen≠seen) →
  (fs.foldl (repC next) x).1=chainT next (seen++fs.flatten)
 | [],x,seen,_,h1,_,_=>by rw [List.foldl_nil,List.flatten_nil,List.append_nil,h1]
 | f::fs,x,seen,hf,h1,h2,h3=>by
   obtain ⟨g1,g2,g3⟩:=rep_step h1 h2 h3 (hf f (List.mem_cons_self ..))
   rw [List.foldl_cons,rep_all fs (fun g hg=>hf g (List.mem_cons_of_mem _ hg)) g1 g2 g3,List.flatten_cons,List.append_assoc]
theorem rep_files {next:Int} {fs:List (List Bat)} (h:∀ f∈fs,FollowW f):(fs.foldl (repC next) ([],false)).1=chainT next fs.flatten:=rep_all fs (seen:=[]) h rfl (fun _=>rfl) fun h=>by cases h
end Go.Proofs.YtdfibahafilklaaGreatDoor.WM
namespace Go.Proofs.YtdfibahafilklaaGreatDoor.WM
open Go Go.Lib
theorem nd_le:∀ (k u:Nat),u<10^(k+1)→nDigits u≤k+1
 | 0,u,h=>by rw [nDigits_small (by simpa using h)];omega
 | k+1,u,h=>by
   by_cases h0:u<10
   ·rw [nDigits_small h0];omega
   ·rw [Nat.pow_succ] at h
    rw [nDigits_big h0]
    have:=nd_le k (u / 10) (by omega)
    omega
theorem dec_len (u:Nat):(decDigits u).length=nDigits u:=by rw [decDigits_eq];simp
theorem nameW_range (n:Nat):nameW n=[108,111,103,45]++(List.range 8).map (digW n):=rfl
theorem name_pad {n:Nat} (h:n≤99999999):[108,111,103,45]++(List.replicate (8 - (decDigits n).length) 48++decDigits n)=nameW n:=by
 have h8:nDigits n≤8:=nd_le 7 n (by omega)
 have h1:=nDigits_pos n
 have h2:=lt_pow_nDigits n
 rw [nameW_range,dec_len]
 congr 1
 refine List.ext_getElem (by rw [List.length_append,List.length_replicate,dec_len,List.length_map,List.length_range];omega) fun i hi hi' => ?_
 rw [List.length_map,List.length_range] at hi'
 rw [List.getElem_map,List.getElem_range]
 by_cases hz:i<8 - nDigits n
 ·rw [List.getElem_append_left (by rw [List.length_replicate];exact hz),List.getElem_replicate]
  unfold digW
  have h3:n<10^(7 - i):=Nat.lt_of_lt_of_le h2 (Nat.pow_le_pow_right (by omega) (by omega))
  rw [Nat.div_eq_of_lt h3]
  rfl
 ·rw [List.getElem_append_right (by rw [List.length_replicate];omega)]
  have e:∀ (l:List UInt8) (j:Nat) (hj:j<l.length) (h3:l=(List.range (nDigits n)).map fun t=>dg n (nDigits n - 1 - t)),l[j]=dg n (nDigits n - 1 - j):=fun l j hj h3=>by subst h3;simp
  rw [e _ _ _ (decDigits_eq n)]
  have e2:nDigits n - 1 - (i - (List.replicate (8 - nDigits n) (48:UInt8)).length)=7 - i:=by rw [List.length_replicate];omega
  rw [e2]
  rfl
def nameI (n:Int):List UInt8×Int:=if n<0∨99999999<n then ([],1) else (nameW n.toNat,0)
end Go.Proofs.YtdfibahafilklaaGreatDoor.WM
namespace Go.Proofs.YtdfibahafilklaaGreatDoor.WM
open Go Go.Lib
theorem dig_back {c:UInt8} (h:digitW c=true):UInt8.ofNat (48+(c.toNat - 48))=c:=by
 unfold digitW at h
 simp only [Bool.and_eq_true,decide_eq_true_eq] at h
 rw [show 48+(c.toNat - 48)=c.toNat by omega]
 exact UInt8.ofNat_toNat
theorem dig_lt {c:UInt8} (h:digitW c=true):c.toNat - 48≤9∧48≤c.toNat:=by
 unfold digitW at h
 simp only [Bool.and_eq_true,decide_eq_true_eq] at h
 omega
theorem digits_val {l:List UInt8} (hl:l.length=8) (hd:l.all digitW=true):(List.range 8).map (digW (valW l))=l∧valW l≤99999999:=by
 match l,hl with
 | [a,b,c,d,e,f,g,h],_ =>
   simp only [List.all_cons,List.all_nil,Bool.and_true,Bool.and_eq_true] at hd
   obtain ⟨ha,hb,hc,hd,he,hf,hg,hh⟩:=hd
   have a1:=dig_lt ha;have b1:=dig_lt hb;have c1:=dig_lt hc;have d1:=dig_lt hd;have e1:=dig_lt he;have f1:=dig_lt hf;have g1:=dig_lt hg;have h1:=dig_lt hh
   have hv:valW [a,b,c,d,e,f,g,h]=10*(10*(10*(10*(10*(10*(10*(10*0+(a.toNat - 48))+(b.toNat - 48))+(c.toNat - 48))+(d.toNat - 48))+(e.toNat - 48))+(f.toNat - 48))+(g.toNat - 48))+(h.toNat - 48):=rfl
   generalize hn:valW [a,b,c,d,e,f,g,h]=n at hv
   refine ⟨?_,by omega⟩
   have t0:digW n 0=a:=by unfold digW;rw [show n / 10^(7 - 0)%10=a.toNat - 48 by simp;omega];exact dig_back ha
   have t1:digW n 1=b:=by unfold digW;rw [show n / 10^(7 - 1)%10=b.toNat - 48 by simp;omega];exact dig_back hb
   have t2:digW n 2=c:=by unfold digW;rw [show n / 10^(7 - 2)%10=c.toNat - 48 by simp;omega];exact dig_back hc
   have t3:digW n 3=d:=by unfold digW;rw [show n / 10^(7 - 3)%10=d.toNat - 48 by simp;omega];exact dig_back hd
   have t4:digW n 4=e:=by unfold digW;rw [show n / 10^(7 - 4)%10=e.toNat - 48 by simp;omega];exact dig_back he
   have t5:digW n 5=f:=by unfold digW;rw [show n / 10^(7 - 5)%10=f.toNat - 48 by simp;omega];exact dig_back hf
   have t6:digW n 6=g:=by unfold digW;rw [show n / 10^(7 - 6)%10=g.toNat - 48 by simp;omega];exact dig_back hg
   have t7:digW n 7=h:=by unfold digW;rw [show n / 10^(7 - 7)%10=h.toNat - 48 by simp;omega];exact dig_back hh
   show [digW n 0,digW n 1,digW n 2,digW n 3,digW n 4,digW n 5,digW n 6,digW n 7]=_
   rw [t0,t1,t2,t3,t4,t5,t6,t7]
theorem name_number {s:List UInt8} {n:Nat} (h:numberW s=some n):nameW n=s∧n≤99999999:=by
 unfold numberW at h
 split at h
 ·rename_i hc
  obtain ⟨h1,h2,h3⟩:=hc
  obtain rfl:=Option.some.inj h
  obtain ⟨h4,h5⟩:=digits_val (l:=s.drop 4) (by rw [List.length_drop,h1]) h3
  refine ⟨?_,h5⟩
  rw [nameW_range,h4,← h2,List.take_append_drop]
 ·cases h
theorem number_is {s:List UInt8} {m:Int} (hm:∀ k,numberW s=some k→m=(k:Int)):(if (nameI m).2=0∧(nameI m).1=s then some m.toNat else none)=numberW s:=by
 cases hn:numberW s with
 | some k =>
   obtain ⟨h1,h2⟩:=name_number hn
   have h3:=hm k hn
   subst h3
   have e:nameI (k:Int)=(nameW k,0):=by unfold nameI;rw [if_neg (by omega)];simp
   rw [e,if_pos ⟨rfl,h1⟩]
   simp
 | none =>
   rw [if_neg]
   rintro ⟨h1,h2⟩
   unfold nameI at h1 h2
   split at h1
   ·cases h1
   ·rename_i hc
    rw [if_neg hc] at h2
    have h3:=numberW_name (n:=m.toNat) (by omega)
    rw [← h2] at hn
    have h4:numberW (nameW m.toNat)=none:=hn
    rw [h3] at h4
    cases h4
end Go.Proofs.YtdfibahafilklaaGreatDoor.WM
namespace Go.Proofs.YtdfibahafilklaaGreatDoor.WM
open Go VM DK
open EM (Ev Bat checkB encB)
noncomputable def toldW (l:List UInt8):List Bat:=Classical.choose (scans_ex l.length none l (Nat.le_refl _))
theorem told_is (l:List UInt8):∃ k e,Scans none l (toldW l) k e:=Classical.choose_spec (scans_ex l.length none l (Nat.le_refl _))
theorem told_of {l:List UInt8} {bs:List Bat} {k:Nat} {e:Int} (h:Scans none l bs k e):toldW l=bs:=by
 obtain ⟨m,f,h2⟩:=told_is l
 exact (h2.unique h).1
theorem told_follow (l:List UInt8):FollowW (toldW l):=by
 obtain ⟨k,e,h⟩:=told_is l
 exact (scans_chain h).2
theorem digW_ok (n i:Nat):charOk (digW n i)=true:=by
 have h:=digW_nat n i
 unfold charOk
 have h1:(48:UInt8)≤digW n i:=by rw [UInt8.le_iff_toNat_le,h];show 48≤_;omega
 have h2:digW n i≤(57:UInt8):=by rw [UInt8.le_iff_toNat_le,h];show _≤57;omega
 simp [h1,h2]
theorem nameW_ok (n:Nat):namedL (nameW n)=true:=by
 unfold namedL nameW
 simp only [List.all_cons,List.all_nil,digW_ok,List.length_cons,List.length_nil,Bool.and_true]
 rfl
theorem nameW_len (n:Nat):(nameW n).length=12:=rfl
def namesW (d:DiskD):List (List UInt8):=if d.stopped=true then [] else d.L.map (·.name)
def logsL (ns:List (List UInt8)):List Nat:=ns.filterMap numberW
def logsW (d:DiskD):List Nat:=logsL (namesW d)
def bytesW (d:DiskD) (n:Nat):List UInt8:=((findL d.L (nameW n)).map (·.b)).getD []
def lastL (l:List Nat):Int:=match l.getLast? with
 | none => -1
 | some n=>(n:Int)
def aboveL (fr:Int) (l:List Nat):List Nat:=l.filter fun n=>decide (fr≤(n:Int))
noncomputable def replL (d:DiskD) (l:List Nat) (fr nx:Int):List Bat:=chainT nx ((aboveL fr l).map fun n=>toldW (bytesW d n)).flatten
noncomputable def replW (d:DiskD) (fr nx:Int):List Bat:=replL d (logsW d) fr nx
theorem log_mem {d:DiskD} {n:Nat} (h:n∈logsW d):n≤99999999∧d.stopped=false∧∃ f∈d.L,f.name=nameW n:=by
 unfold logsW logsL namesW at h
 rw [List.mem_filterMap] at h
 obtain ⟨s,hs,hn⟩:=h
 obtain ⟨h1,h2⟩:=name_number hn
 cases hst:d.stopped with
 | true=>rw [hst] at hs;simp at hs
 | false =>
   rw [hst] at hs
   simp only [Bool.false_eq_true,if_false,List.mem_map] at hs
   obtain ⟨f,hf,e⟩:=hs
   exact ⟨h2,rfl,f,hf,by rw [e,h1]⟩
theorem log_find {d:DiskD} (hg:DK.Good d) {n:Nat} (h:n∈logsW d):∃ f,findL d.L (nameW n)=some f∧bytesW d n=f.b:=by
 obtain ⟨_,_,f,hf,e⟩:=log_mem h
 have h1:=rise_find hg.rise hf
 rw [e] at h1
 exact ⟨f,h1,by unfold bytesW;rw [h1];rfl⟩
def errW:List Bat→Int
 | []=>0
 | b::l=>if checkB b≠0 then checkB b else errW l
theorem errW_all:∀ {l:List Bat},errW l=0→∀ b∈l,checkB b=0
 | [],_,b,h=>by cases h
 | c::l,h,b,hb=>by
   rw [errW] at h
   split at h
   ·rename_i h1;exact absurd h h1
   ·rename_i h1
    rcases List.mem_cons.1 hb with rfl | hb
    ·exact Classical.byContradiction h1
    ·exact errW_all h b hb
theorem errW_of:∀ {l:List Bat},(∀ b∈l,checkB b=0)→errW l=0
 | [],_=>rfl
 | c::l,h=>by
   rw [errW,if_neg (by simp [h c (List.mem_cons_self ..)])]
   exact errW_of fun b hb=>h b (List.mem_cons_of_mem _ hb)
theorem errW_at:∀ {l:List Bat} {i:Nat} (hi:i<l.length),errW (l.take i)=0→errW l=if checkB l[i]≠0 then checkB l[i] else errW (l.drop (i+1))
 | b::l,0,_,_=>by rw [errW];rfl
 | b::l,i+1,hi,h=>by
   rw [List.take_succ_cons,errW] at h
   split at h
   ·rename_i h1;exact absurd h h1
   ·rename_i h1
    rw [errW,if_neg h1]
    exact errW_at (l:=l) (i:=i) (by simpa using hi) h
def appendW (d:DiskD) (n:Nat) (bs:List Bat):DiskD×Int:=if errW bs≠0 then (d,errW bs) else if bs=[] then (d,0) else appendD d (nameW n) (fileB bs)
def sizeW (d:DiskD) (n:Nat):Nat:=if d.stopped=true then 0 else (bytesW d n).length
theorem fileB_le:∀ {bs:List Bat},(∀ b∈bs,checkB b=0)→(fileB bs).length≤16777232*bs.length
 | [],_=>Nat.zero_le _
 | b::bs,h=>by
   rw [fileB_cons,List.length_append,List.length_cons]
   have h1:=encB_len (h b (List.mem_cons_self ..))
   have h2:=fileB_le fun c hc=>h c (List.mem_cons_of_mem _ hc)
   have h3:=FM.frameL_bounds (encB b)
   omega
end Go.Proofs.YtdfibahafilklaaGreatDoor.WM
namespace Go.Proofs.YtdfibahafilklaaGreatDoor.WM
open Go Go.Lib
theorem parse_digits:∀ (l:List UInt8) (acc m:Nat),l.all digitW=true→acc<10^m→m+l.length≤18→parseUint10 acc l=.ok (l.foldl (fun n c=>10*n+(c.toNat - 48)) acc)
 | [],acc,m,_,_,_=>rfl
 | c::r,acc,m,hd,ha,hm=>by
   rw [List.all_cons,Bool.and_eq_true] at hd
   obtain ⟨h1,h2⟩:=hd
   have h3:=dig_lt h1
   have h4:c.toNat≤57:=by omega
   rw [List.length_cons] at hm
   have h5:acc<10^17:=Nat.lt_of_lt_of_le ha (Nat.pow_le_pow_right (by omega) (by omega))
   have h6:(10:Nat)^17=100000000000000000:=by decide
   rw [h6] at h5
   have h7:acc*10+(c.toNat - 48)<10^(m+1):=by rw [Nat.pow_succ];omega
   show (if 48≤c.toNat∧c.toNat≤57 then if 1844674407370955162≤acc then NumEnd.range else if 18446744073709551616≤acc*10+(c.toNat - 48) then NumEnd.range else parseUint10 (acc*10+(c.toNat - 48)) r else NumEnd.syntax)=_
   rw [if_pos ⟨h3.2,h4⟩,if_neg (by omega),if_neg (by omega),parse_digits r _ (m+1) h2 h7 (by omega),List.foldl_cons,Nat.mul_comm]
theorem atoi_digits {l:List UInt8} (hl:l.length=8) (hd:l.all digitW=true):atoiAll l=.ok (valW l:Int):=by
 match l,hl with
 | c::r,hl =>
   have hp:=parse_digits (c::r) 0 0 hd (by decide) (by omega)
   have hv:=(digits_val hl hd).2
   rw [List.all_cons,Bool.and_eq_true] at hd
   have h3:=dig_lt hd.1
   have hs:¬ (c.toNat=43∨c.toNat=45):=by omega
   have h45:¬ c.toNat=45:=by omega
   unfold atoiAll parseMag
   dsimp only
   rw [if_neg hs,if_neg (by simp),hp]
   dsimp only
   change (if ¬ c.toNat=45∧9223372036854775808≤valW (c::r) then NumEnd.range else if c.toNat=45∧9223372036854775808<valW (c::r) then NumEnd.range else NumEnd.ok (if c.toNat=45 then -((valW (c::r):Nat):Int) else ((valW (c::r):Nat):Int)))=_
   rw [if_neg (by omega),if_neg (by omega),if_neg h45]
end Go.Proofs.YtdfibahafilklaaGreatDoor.WM
