import Derived.Test.YtdijhifdjbnkfaaGreatZD16
import Derived.Test.YtdijhifdjbnkfaaGreatZD39
set_option maxRecDepth 100000
set_option maxHeartbeats 8000000
set_option linter.unusedVariables false
set_option linter.unusedSimpArgs false
namespace Go.Proofs.YtdijhifdjbnkfaaGreat.ST
open Go Go.RowKit MM DM VM VP GB
theorem Zeb (n:Nat):Zd8 n≠[]:=fun h=>by
 have:=Zea n
 rw [h] at this
 simp at this
end Go.Proofs.YtdijhifdjbnkfaaGreat.ST
namespace Go.Proofs.YtdijhifdjbnkfaaGreat.EV
open Go Go.RowKit MM EM VM GB
open VP
end Go.Proofs.YtdijhifdjbnkfaaGreat.EV
namespace Go.Proofs.YtdijhifdjbnkfaaGreat.ST
open Go Go.RowKit MM EM SM VM VP GB TR
open EV (docC evC fldC Zgn ZaW)
theorem ZdY (e:Ev):ZdV e≠[]:=fun h=>by
 have:=(ZdX e).2
 rw [h] at this
 simp at this
theorem Zlk (l:List Doc) (a:Nat):∀ c,(Zli l a c).length≤20*c
 | 0=>by rw [Zln];simp
 | c+1=>by
   have ih:=Zlk l a c
   have h1:=Zea (Zm9 l (endS l (a+c))).toNat
   have h2:=Zea (Zsj l (16*(a+c)) (endS l (a+c))).length
   rw [Zlm]
   unfold Zk9
   simp only [List.length_append]
   omega
def Zap (l:List UInt8) (x:Int) (w:World) (e:Ending) (w':World):Prop:=∃ v,e=.returned (.tuple #[v,.int .i64 x])∧OwnB w.heap.size w' v l∧Below w.heap.size w w'
end Go.Proofs.YtdijhifdjbnkfaaGreat.ST
namespace Go.Proofs.YtdijhifdjbnkfaaGreat.ST
open Go Go.RowKit MM EM SM VM VP GB
open EV (docC evC fldC Zgn ZaW putB ZfR)
theorem Zcp (v:Value) (l:List UInt8) (n:Int) (w:World) (h0:0≤n) (h1:n≤9223372036854775807) (hown:OwnB 0 w v l) (hlen:l.length≤1000000000000) :
  Calls Tryz.prog 137 #[v,.int .i64 n] w (AppL (l++Zd8 n.toNat) v w):=by
 obtain ⟨m,rfl⟩:=Int.eq_ofNat_of_zero_le h0
 rw [Int.toNat_natCast]
 have hput:=VP.Zr2 (.slice none 0 0) [] m w (by omega) (BRow.nil_ w) (by simp)
 rw [List.nil_append] at hput
 have hbl:=Zea m
 have hne:=Zeb m
 obtain ⟨M,hM⟩:∃ M,Zd8 m=M:=⟨_,rfl⟩
 rw [hM] at hput hbl hne ⊢
 have HP:=Lib.hid hput
 have HO:=Lib.hid hown
 have HNE:=Lib.hid hne
 have hw:IntKind.u64.wrap (m:Int)=(m:Int):=by rw [IntKind.wrap_u64];omega
 obtain ⟨p,cap,rfl,_⟩:=(OwnB.brow hown).shape
 clear hput hown hM hne
 go_enter Tryz.func137,Tryz.ntmps137
 go_wp2_with fail
 refine HP.out.mono ?_
 rintro e w1 ⟨v1,rfl,ho1,hb1⟩
 have HO1:=Lib.hid (HO.out.keep hb1)
 have HR1:=Lib.hid (OwnB.brow ho1)
 have HB1:=Lib.hid hb1
 have HLT:=Lib.hid (Zqh HO.out)
 obtain ⟨p1,c1,rfl,_⟩:=(OwnB.brow ho1).shape
 clear ho1 hb1 HP
 go_wp2_with (at_builtin;refine Zzp rfl _ _ rfl _ l rfl HO1.out _ M rfl HR1.out HNE.out (by omega) ?_)
 intro v2 w2 ho2 hg2
 have HO2:=Lib.hid ho2
 have HG2:=Lib.hid (hg2.of_below HB1.out HLT.out)
 clear ho2 hg2
 go_wp2_with fail
 go_ret
 exact ⟨_,rfl,HO2.out,HG2.out⟩
theorem Zeh (v:Value) (c:List Doc) (a:Int) (w:World) (hv:RAny docC w v c) (hr:isR a c=true) (hf:FitS c) (h0:0≤a) (hn:c.length≤16) :
  Calls Tryz.prog 136 #[v,.int .i64 a] w (Zbg w.heap.size (blkS a c) w):=by
 obtain ⟨p,cap,rfl,hlc,hcm,_⟩:=hv.shape
 unfold maxLen at hcm
 have HR:=Lib.hid hr
 have HF:=Lib.hid hf
 have HV:=Lib.hid hv
 have HEND:Hid (blkS a (c.take c.length)=blkS a c):=Lib.hid (by rw [List.take_length])
 have HO0:Hid (OwnB w.heap.size w (.slice none 0 0) (blkS a (c.take 0))):=Lib.hid (World.ownsRow_nil _ _ _ _)
 have HB0:=Lib.hid (Below.refl w.heap.size w)
 have HA0:Hid (endA a (c.take 0)=a):=Lib.hid rfl
 clear hr hf hv
 go_enter Tryz.func136,Tryz.ntmps136
 go_wp2_with fail
 go_loopw [1,5,12] (fun av bv iv wr=>∃ (i:Nat) (A:Int),i≤c.length∧iv=.int .i64 i∧av=.int .i64 A∧Hid (endA a (c.take i)=A)∧Hid (OwnB w.heap.size wr bv (blkS a (c.take i)))∧Hid (Below w.heap.size w wr)) (fun _ _ iv _=>c.length - (intOf iv).toNat)
 case atStart=>exact ⟨0,a,by omega,rfl,rfl,HA0,HO0,HB0⟩
 case round =>
  obtain ⟨i,A,hi,rfl,rfl,HA,HO,HB⟩:=hrel
  clear HO0 HB0 HA0
  by_cases hlt:i<c.length
  ·have q1:decide ((i:Int)<(c.length:Int))=true:=by rw [decide_eq_true_eq];omega
   have q2:decide (i<c.length)=true:=by rw [decide_eq_true_eq];omega
   have q3:(i:Int)<(c.length:Int):=by omega
   obtain ⟨b,off,vf,rfl,hbl,_,c1,c2,c3,hfl⟩:=Zgn (RAny.below HV.out HB.out) hlt
   have hok:=ZmD HR.out hlt
   have hfit:=HF.out c[i] (List.getElem_mem hlt)
   have hge:=Zhg (ZmF HR.out i)
   have hnx:=Zc3 a hlt
   have hea:=Zhk a hlt
   have hLL:=Zc2 (ZmF HR.out i)
   rw [List.length_take] at hLL
   rw [HA.out] at hok hnx hge
   generalize c[i]=X at *
   obtain ⟨sq,⟨tm,fs⟩⟩:=X
   dsimp only at *
   obtain ⟨ho1,ho2,ho3⟩:=hok
   obtain ⟨pf,cf,rfl,_⟩:=hfl.shape
   obtain ⟨L,hL⟩:∃ L,blkS a (c.take i)=L:=⟨_,rfl⟩
   rw [hL] at hnx HO hLL
   have hLb:L.length≤1200000:=by omega
   obtain ⟨n,hnn⟩:∃ n,(sq - A - 1).toNat=n:=⟨_,rfl⟩
   rw [hnn] at hnx
   have hw1:IntKind.i64.wrap (sq - A)=sq - A:=by rw [IntKind.wrap_i64];omega
   have hw2:IntKind.i64.wrap (sq - A - 1)=(n:Int):=by rw [IntKind.wrap_i64];omega
   have hnb:=(Zea n).2
   have heb:=ZpG (x:=(sq,(tm,fs))) n ho3
   rw [List.length_append] at heb
   have hpb:putB [] (tm,fs)=ZdV (tm,fs):=by unfold putB;rw [if_pos ho3,List.nil_append]
   have hEne:=ZdY (tm,fs)
   have HPUT:=fun W hW=>ZfR (.slice none 0 0) [] tm (.slice pf fs.length cf) fs W (BRow.nil_ W) (by simp) hW hfit.1 hfit.2
   simp only [hpb,ho3] at HPUT
   obtain ⟨EB,hEB⟩:∃ E,ZdV (tm,fs)=E:=⟨_,rfl⟩
   dsimp only at heb
   rw [hEB] at HPUT heb hnx hEne
   obtain ⟨q,hq⟩:∃ q,wr.heap.size=q:=⟨_,rfl⟩
   obtain ⟨pb,cb,rfl,_⟩:=(OwnB.brow HO.out).shape
   obtain ⟨w0,hw0⟩:∃ W,wr.alloc (.cells #[.int .i64 sq,.int .i64 tm,.slice pf fs.length cf] 59)=W:=⟨_,rfl⟩
   have hb0:Below wr.heap.size wr w0:=by rw [← hw0];exact (Below.refl _ _).alloc (Nat.le_refl _) _
   have BS0:Hid (Zae w.heap.size q w w0 (.slice pb L.length cb) L):=Lib.hid ⟨HO.out.keep hb0,HB.out.trans (hb0.mono HB.out.size),by have:=HB.out.size;have:=hb0.size;omega,by rw [← hw0,← hq];simp,fun g hg=>by have:=(World.ownsRow.lt HO.out g hg).2;omega⟩
   have T0:Hid (Zbz w0 q 59 (.int .i64 sq) (.int .i64 tm) (.slice pf fs.length cf)):=Lib.hid (by rw [← hw0,← hq];exact ZxD wr 59 _ _ _)
   have HP0:=Lib.hid (HPUT w0 (RAny.below hfl.any hb0))
   have HN:=Lib.hid hnx
   have HE:=Lib.hid hea
   have HNE:=Lib.hid hEne
   have HLEN:Hid (L.length+(Zd8 n).length+EB.length≤2000000):=Lib.hid (by omega)
   have HW0:=Lib.hid hw0
   obtain ⟨f0,f1,f2⟩:=T0.out.cells
   rw [← hw0] at f0 f1 f2
   clear hw0 hb0 HO HB hL hfl HPUT hnx hea hLL hEB hEne heb hpb ho3 hfit HA
   go_wp2_with fail
   rw [HW0.out]
   refine HP0.out.mono ?_
   rintro e w1 ⟨v1,rfl,hov1,hb1⟩
   have BS1:=Lib.hid (BS0.out.below hb1)
   have t1:=T0.out.below hb1 T0.out.lt
   have T1:=Lib.hid t1
   obtain ⟨g0,g1,g2⟩:=t1.cells
   have HV1:=Lib.hid hov1
   obtain ⟨p1,k1,rfl,_⟩:=(OwnB.brow hov1).shape
   have HLO:Hid (∀ k,(Value.slice pb L.length cb).ownBlock=some k→k<w0.heap.size):=Lib.hid (Zqh BS0.out.1)
   have HAN:=Lib.hid (Zcp (.slice pb L.length cb) L (n:Int) w1 (by omega) (by omega) (OwnB.zero BS1.out.1) (by omega))
   rw [Int.toNat_natCast] at HAN
   clear hov1 hb1 t1 BS0 T0 HP0 f0 f1 f2
   go_wp2_with fail
   refine HAN.out.mono ?_
   rintro e w2 ⟨v2,rfl,ho2,hg2⟩
   obtain ⟨hbs2,hq2⟩:=BS1.out.grown ho2 hg2
   have BS2:=Lib.hid hbs2
   have t2:Zbz w2 q 59 (.int .i64 sq) (.int .i64 tm) (.slice pf fs.length cf):=hq2.trans T1.out
   have T2:=Lib.hid t2
   have HV2:=Lib.hid (OwnB.brow (OwnB.kepOwn HV1.out hg2.kep (fun k hk e=>by have:=HLO.out k e;have:=(World.ownsRow.lt HV1.out k hk).1;omega)))
   obtain ⟨p2,k2,rfl,_⟩:=(OwnB.brow ho2).shape
   obtain ⟨L1,hL1⟩:∃ l,L++Zd8 n=l:=⟨_,rfl⟩
   have HLEN1:Hid (L1.length+EB.length≤2000000):=Lib.hid (by rw [← hL1,List.length_append];exact HLEN.out)
   have HN1:=HN
   rw [← List.append_assoc,hL1] at HN1
   rw [hL1] at BS2 ⊢
   clear ho2 hg2 hbs2 hq2 t2 BS1 T1 HAN HV1 HLO hL1 HN HLEN g0 g1 g2
   go_wp2_with (at_builtin;go_loud (refine Zzp rfl _ _ rfl _ L1 rfl (OwnB.zero BS2.out.1) _ EB rfl HV2.out HNE.out (by have:=HLEN1.out;omega) ?_;intro v4 w4 ho4 hg4;have hbs:=BS2.out.grown ho4 hg4;have BS4:=Lib.hid hbs.1;have T4:Hid (Zbz w4 q 59 (.int .i64 sq) (.int .i64 tm) (.slice pf fs.length cf)):=Lib.hid (hbs.2.trans T2.out);clear hbs ho4 hg4 BS2 T2 HV2;obtain ⟨e0,e1,e2⟩:=T4.out.cells))
   rw [← HN1.out] at BS4
   have HO9:=Lib.hid BS4.out.1
   have HB9:=Lib.hid BS4.out.2.1
   go_roundw
   case rel=>exact ⟨i+1,sq,by omega,by go_num,rfl,HE,HO9,HB9⟩
   case measure=>simp [intOf];omega
  ·obtain rfl:i=c.length:=by omega
   have q1:decide ((c.length:Int)<(c.length:Int))=false:=by simp
   have q2:decide (c.length<c.length)=false:=by simp
   have ho:=HO.out
   rw [HEND.out] at ho
   have HO9:=Lib.hid ho
   clear ho HO hlt HA
   go_wp2_with fail
   go_ret
   exact ⟨_,rfl,HO9.out,HB.out⟩
end Go.Proofs.YtdijhifdjbnkfaaGreat.ST
namespace Go.Proofs.YtdijhifdjbnkfaaGreat.GB
open Go Go.RowKit MM
theorem Zzk {F:Fence} {n:Nat} {w:World} {ops:Array Oper} {rest:List Oper} {o:Oper} {a:Act} {Q:Exit→Act→World→Prop} (hgd:o.guard=none) (s x:Operand)
  (ho:o.op=.call { callee:=.builtin .append,args:=#[s,x],argTypes:=#[23,23] }) (v:Value) (l:List UInt8) (hs:a.eval s=v) (hown:OwnB 0 w v l)
  (src:Value) (m:List UInt8) (hx:a.eval x=src) (hr:BRow w src m) (hm:m≠[]∨src=.slice none 0 0) (hlen:l.length+m.length≤140737488355328)
  (h:∀ v' w',OwnB 0 w' v' (l++m)→ZaL w w' v v'→wpListIn F n Tryz.prog ops Q rest (a.put o.dst v') w'):wpListIn F n Tryz.prog ops Q (o::rest) a w:=by
 obtain ⟨i0,hi,hz0,hz1,hz2⟩:=info_parts ZlZ
 obtain ⟨p,cap,rfl,_,_,h3,hc⟩:=hr
 rcases hc with hc | ⟨b,off,rfl,_,hc⟩
 ·have hm0:m=[]:=by
   have:=ZdR m
   rw [hc] at this
   exact List.eq_nil_of_length_eq_zero (by simpa using this.symm)
  have hsn:=hm.resolve_left fun h=>h hm0
  subst hm0
  refine wpListIn_plain hgd fun K hK' => ?_
  have hrun:=run_append_owned_none (P:=Tryz.prog) (w:=w) 0 23 o.type 5 i0 1 Tryz.underlying23 hi v l.length (Lib.byteCells l) hown
  have hh:=h v w (by rw [List.append_nil];exact hown) (ZaL.refl w v)
  rw [hsn] at hx
  unfold Oper.wpIn
  refine ⟨?_,?_⟩
  ·simp [Oper.about,ho,resolve,Target.leads,Sem.run_pure]
  ·rw [Oper.semAt_plain F _ _ (by rw [ho];intro c hc';cases hc')]
   simp [execOp,ho,resolve,invoke,builtin,hs,hx,hrun,Result.andThen]
   exact hK' _ _ hh
 ·by_cases hm0:m=[]
  ·have hsn:=hm.resolve_left fun h=>h hm0
   cases hsn
  ·have h0:=List.length_pos_iff.2 hm0
   refine wpListIn_plain hgd fun K hK' => ?_
   obtain ⟨g,cap',w',hrun,h2,h3',h4,h5⟩:=run_append_lies (P:=Tryz.prog) w 23 o.type 0 5 i0 (.int .u8 0) 1 1 Tryz.underlying23 hi hz0 hz1 hz2 rfl (by decide) v l.length (Lib.byteCells l) hown ⟨b,off,none⟩ (Lib.byteCells m).length cap (Lib.byteCells m) (by simp)
    (fun j u hu=>by rw [Zb5];exact hc j u hu) (ZdS m) (by rw [ZdR];omega) (by rw [ZdR];unfold maxLen;omega) (by rw [ZdR];omega) (Nat.zero_le _) w.heap.size rfl
   have hh:=h _ w' (by
    unfold OwnB
    rw [List.length_append,ZdO]
    rw [ZdR] at h2
    exact h2) ⟨h3',fun k hk=>by
     simp only [Value.ownBlock,Option.some.injEq] at hk
     subst hk
     rcases h4 with h | h
     ·exact .inl h
     ·exact .inr (Nat.le_of_eq h.symm)⟩
   unfold Oper.wpIn
   refine ⟨?_,?_⟩
   ·simp [Oper.about,ho,resolve,Target.leads,Sem.run_pure]
   ·rw [Oper.semAt_plain F _ _ (by rw [ho];intro c hc';cases hc')]
    rw [ZdR] at hrun
    rw [ZdR] at hx
    simp [execOp,ho,resolve,invoke,builtin,hs,hx,hrun,Result.andThen]
    exact hK' _ _ hh
end Go.Proofs.YtdijhifdjbnkfaaGreat.GB
