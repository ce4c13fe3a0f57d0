import Derived.Test.YtdijhifdjbnkfaaGreatZD12
import Derived.Test.YtdijhifdjbnkfaaGreatZD15
set_option maxRecDepth 100000
set_option maxHeartbeats 8000000
set_option linter.unusedVariables false
set_option linter.unusedSimpArgs false
namespace Go.Proofs.YtdijhifdjbnkfaaGreat.DT
open Go Go.RowKit MM DM
open EM (Znl Znt)
theorem Zl0:(Tryz.prog.info? 102).map (·.size)=some 4:=by kernel_rfl
theorem entE:Elem entC Tryz.prog 97 102 40:=⟨Tryz.underlying97,by
 have h:(Tryz.prog.info? 102).map (fun i=>(i.zero,i.size,i.bytes))=some (some (.agg #[.string ⟨#[]⟩,.int .i64 0,.int .i64 0,.int .i64 0]),4,40):=by kernel_rfl
 obtain ⟨i,h1,h2,h3,h4⟩:=info_parts h
 exact ⟨i,_,h1,h2,h3,h4,rfl⟩⟩
def ZaF (o:Option Ent) (w:World) (e:Ending) (w':World):Prop:=e=.returned (.tuple #[entV (o.getD nilX),.bool o.isSome])∧Below w.heap.size w w'
end Go.Proofs.YtdijhifdjbnkfaaGreat.DT
namespace Go.Proofs.YtdijhifdjbnkfaaGreat.TR
open Go Go.RowKit MM GB
theorem ZkT {B:Nat} {wr w':World} {u u':Value} {L L':List UInt8} (hB:B≤wr.heap.size) (ho:OwnB B wr u L) (hg:ZaL wr w' u u') (ho':OwnB 0 w' u' L'):OwnB B w' u' L'∧Below B wr w':=by
 have h1:∀ k,u.ownBlock=some k→B≤k:=fun k hk=>(World.ownsRow.lt ho k hk).1
 refine ⟨OwnB.from ho' fun k hk => ?_,hg.kep.below hB fun k hk e=>by have:=h1 k e;omega⟩
 rcases hg.2 k hk with e | e
 ·exact h1 k e
 ·omega
structure EncSt (w W wr:World) (gb:Option Nat) (vh vb:Value) (H Bd:List UInt8):Prop where
 low:Below w.heap.size w wr
 gsz:W.heap.size≤wr.heap.size
 wsz:w.heap.size≤W.heap.size
 blk:∀ g,gb=some g→g<W.heap.size∧wr.heap[g]? = W.heap[g]?
 oh:OwnB 0 wr vh H
 ob:OwnB 0 wr vb Bd
 fh:∀ k,vh.ownBlock=some k→w.heap.size≤k∧gb≠some k
 fb:∀ k,vb.ownBlock=some k→w.heap.size≤k∧gb≠some k
 ap:∀ k,vh.ownBlock=some k→vb.ownBlock≠some k
theorem EncSt.below {w W wr w':World} {gb:Option Nat} {vh vb:Value} {H Bd:List UInt8} (h:EncSt w W wr gb vh vb H Bd) (hb:Below wr.heap.size wr w'):EncSt w W w' gb vh vb H Bd :=
 ⟨h.low.trans (hb.mono h.low.size),Nat.le_trans h.gsz hb.size,h.wsz,fun g hg=>⟨(h.blk g hg).1,(hb.block g (Nat.lt_of_lt_of_le (h.blk g hg).1 h.gsz)).trans (h.blk g hg).2⟩,OwnB.keep h.oh hb,OwnB.keep h.ob hb,h.fh,h.fb,h.ap⟩
theorem EncSt.row {w wr:World} {vh vb x:Value} {H Bd X:List UInt8} (h:EncSt w w wr none vh vb H Bd) {w5:World} (hb:Below wr.heap.size wr w5) (hx:OwnB wr.heap.size w5 x X):EncSt w w5 w5 x.ownBlock vh vb H Bd :=
 ⟨h.low.trans (hb.mono h.low.size),Nat.le_refl _,Nat.le_trans h.low.size hb.size,fun g hg=>⟨(World.ownsRow.lt hx g hg).2,rfl⟩,OwnB.keep h.oh hb,OwnB.keep h.ob hb,
  fun k hk=>⟨(h.fh k hk).1,fun e=>by have h1:=(World.ownsRow.lt hx k e).1;have h2:=Zqh h.oh k hk;omega⟩,
  fun k hk=>⟨(h.fb k hk).1,fun e=>by have h1:=(World.ownsRow.lt hx k e).1;have h2:=Zqh h.ob k hk;omega⟩,h.ap⟩
end Go.Proofs.YtdijhifdjbnkfaaGreat.TR
namespace Go.Proofs.YtdijhifdjbnkfaaGreat.SG
open Go Go.RowKit MM VM VP
open EV (docC fldC Zgn)
open SM (Doc)
open GM (ZxI Znc Znd)
theorem ZlT (z:Int) : -9223372036854775808≤IntKind.i64.wrap z∧IntKind.i64.wrap z≤9223372036854775807:=by
 rw [IntWalk.i64_left]
 unfold wrap64
 omega
end Go.Proofs.YtdijhifdjbnkfaaGreat.SG
namespace Go.Proofs.YtdijhifdjbnkfaaGreat.SG
open Go Go.RowKit MM VM VP VG
open EV (docC fldC Zgn intE)
open SM (Doc)
open GM (ZxI Znc Znd Zne)
def Zwq:Int→List Doc→List Int
 | _,[]=>[]
 | a,d::r=>wrap64 (d.2.1 - a)::Zwq d.2.1 r
theorem Zws:∀ (a b:List Doc) (z:Int),Zwq z (a++b)=Zwq z a++Zwq (Znc z a) b
 | [],b,z=>rfl
 | d::a,b,z=>by rw [List.cons_append,Zwq,Zwq,Zws a b,Znc,List.cons_append]
theorem Zwv {l:List Doc} {k:Nat} (hk:k<l.length) (z:Int):Zwq z (l.take (k+1))=Zwq z (l.take k)++[wrap64 (l[k].2.1 - Znc z (l.take k))]:=by
 rw [List.take_succ_eq_append_getElem hk,Zws,Zwq,Zwq]
theorem Zwu:∀ (l:List Doc) (z:Int),(Zwq z l).length=l.length
 | [],_=>rfl
 | d::l,z=>by rw [Zwq,List.length_cons,List.length_cons,Zwu l]
theorem Zwr:∀ (l:List Doc) (z:Int),allL (Zwq z l)=ZxI z l
 | [],_=>rfl
 | d::l,z=>by
   have e:allL (Zwq z (d::l))=intL (wrap64 (d.2.1 - z))++allL (Zwq d.2.1 l):=by simp [Zwq,allL]
   rw [e,ZxI,Zwr l,IntWalk.i64_left]
theorem ZiQ {zs:List Int} (h:∀ z∈zs, -9223372036854775808≤z∧z≤9223372036854775807):Fits zs:=fun k hk=>by
 have e:zs.getD k 0=zs[k]:=by simp [List.getD,hk]
 rw [e]
 exact h _ (List.getElem_mem hk)
theorem Zwt:∀ (l:List Doc) (z:Int),∀ x∈Zwq z l, -9223372036854775808≤x∧x≤9223372036854775807
 | d::l,z,x,h=>by
   rw [Zwq,List.mem_cons] at h
   rcases h with rfl | h
   ·have:=ZlT (d.2.1 - z)
    rwa [IntWalk.i64_left] at this
   ·exact Zwt l d.2.1 x h
theorem Zmk {S:Nat→Prop} {w:World} {v:Value} {zs:List Int} (h:ROn cInt S w v zs):IRow w v zs:=Zt0 (B:=w.heap.size) h fun b hb _=>hb
theorem ZxK (v:Value) (l:List Doc) (w:World) (hv:RAny docC w v l) (hn:l.length≤1000000) :
  Calls Tryz.prog 81 #[v] w fun e w'=>(∃ u,e=.returned u∧OwnB w.heap.size w' u (ZxI 0 l))∧Below w.heap.size w w':=by
 obtain ⟨p,cap,rfl,hlc,hcm,_⟩:=hv.shape
 unfold maxLen at hcm
 have HV:=Lib.hid hv
 have HALL:Hid (Zwq 0 (l.take l.length)=Zwq 0 l):=Lib.hid (by rw [List.take_length])
 have HNX:=Lib.hid (fun (n:Nat) (hn:n<l.length)=>Zwv hn 0)
 have HLT0:=Lib.hid (fun (n:Nat) (hn:n<l.length)=>Znd hn 0)
 have HLN:=Lib.hid (fun k=>Zwu (l.take k) 0)
 have HPA:=Lib.hid (fun (u:Value) (W:World) (h:IRow W u (Zwq 0 l))=>Zr9 (.slice none 0 0) u [] (Zwq 0 l) W (BRow.nil_ _) h (ZiQ (Zwt l 0)) (by simp) (by rw [Zwu];exact hn))
 have HRES:=Lib.hid (Zwr l 0)
 have H0:Hid (OwnC cInt 3 w.heap.size w (.slice none 0 0) (Zwq 0 (l.take 0))):=Lib.hid (OwnC.nil_ _ _ _)
 clear hv
 go_enter Tryz.func81,Tryz.ntmps81
 go_wp2_with fail
 go_loopw [3,4,9] (fun u av i wr=>∃ (k:Nat) (A:Int),k≤l.length∧i=.int .i64 k∧av=.int .i64 A∧Hid (Znc 0 (l.take k)=A)∧Hid (OwnC cInt 3 w.heap.size wr u (Zwq 0 (l.take k)))∧Hid (Below w.heap.size w wr)) (fun _ _ i _=>l.length - (intOf i).toNat)
 case atStart=>exact ⟨0,0,by omega,rfl,rfl,Lib.hid rfl,H0,Lib.hid (Below.refl _ _)⟩
 case round =>
  obtain ⟨k,A,hk,rfl,rfl,HA,HO,HB⟩:=hrel
  clear H0
  by_cases hlt:k<l.length
  ·have t1:decide ((k:Int)<(l.length:Int))=true:=by simp;omega
   have t2:decide (k<l.length)=true:=decide_eq_true hlt
   have t3:(k:Int)<(l.length:Int):=by omega
   obtain ⟨b,off,vf,rfl,hbl,_,c1,c2,c3,hf⟩:=Zgn (HV.out.below HB.out) hlt
   have hnx:=HNX.out k hlt
   have hlst:=HLT0.out k hlt
   rw [HA.out] at hnx
   obtain ⟨⟨sq,⟨t,fs⟩⟩,hd⟩:∃ d,l[k]=d:=⟨_,rfl⟩
   rw [hd] at c1 c2 hf hnx hlst
   dsimp only at c1 c2 hf hnx hlst
   obtain ⟨pf,cf,rfl,_⟩:=hf.shape
   obtain ⟨pu,cu,rfl,_⟩:=OwnC.shape HO.out
   have T1:=Lib.hid (ZxD wr 59 (.int .i64 sq) (.int .i64 t) (.slice pf fs.length cf))
   have hb1:Below wr.heap.size wr (wr.alloc (.cells #[.int .i64 sq,.int .i64 t,.slice pf fs.length cf] 59)):=(Below.refl _ _).alloc (Nat.le_refl _) _
   have hsz:=HB.out.size
   have HB1:=Lib.hid (HB.out.trans (hb1.mono hsz))
   have HO1:=Lib.hid (HO.out.keep hb1)
   have hob:=Lib.hid (fun g hg=>(OwnC.lt HO.out g hg).2)
   have hll:=HLN.out k
   rw [List.length_take] at hll
   have hll2:(Zwq 0 (l.take k)).length≤1000000:=by omega
   have HNN:=Lib.hid hnx
   have HLS:=Lib.hid hlst
   have HBS:Hid (w.heap.size≤(wr.alloc (.cells #[.int .i64 sq,.int .i64 t,.slice pf fs.length cf] 59)).heap.size):=Lib.hid (by simp;omega)
   clear hf hd hb1 hnx hlst hll HO HB HA
   go_wp2_with (at_builtin;go_loud (refine Zzo intE rfl _ _ rfl w.heap.size _ (Zwq 0 (l.take k)) (wr.alloc (.cells #[.int .i64 sq,.int .i64 t,.slice pf fs.length cf] 59)) [.int .i64 (wrap64 (t - A))] (wrap64 (t - A)) rfl rfl HO1.out rfl (by rw [World.size_alloc];rfl) (by unfold maxLen;omega) (by omega) HBS.out ?_))
   intro v3 w3 ho3 hb3 hk3
   rw [← HNN.out] at ho3
   have HO3:=Lib.hid ho3
   have HB3:=Lib.hid (HB1.out.trans hb3)
   have T3:=(T1.out.below ((Below.refl _ _).alloc (Nat.le_refl _) _) T1.out.lt).keep hk3 (fun e=>by have:=hob.out _ e;omega)
   obtain ⟨f0,f1,f2⟩:=T3.cells
   clear ho3 hb3 hk3 T3 c1 c2 c3
   go_wp2_with fail
   go_roundw
   case rel=>exact ⟨k+1,t,by omega,by go_num,rfl,HLS,HO3,HB3⟩
   case measure=>simp [intOf];omega
  ·obtain rfl:k=l.length:=by omega
   have t1:decide ((l.length:Int)<(l.length:Int))=false:=by simp
   have ho:=HO.out
   rw [HALL.out] at ho
   have HK:=Lib.hid (HPA.out _ _ (Zmk (OwnC.any ho)))
   obtain ⟨pu,cu,rfl,_⟩:=OwnC.shape ho
   clear HO ho
   go_wp2_with fail
   refine HK.out.mono ?_
   rintro e w4 ⟨v4,rfl,ho4,hb4⟩
   rw [List.nil_append,HRES.out] at ho4
   have HO4:=Lib.hid (OwnB.weaken ho4 HB.out.size)
   have HB4:=Lib.hid (HB.out.trans (hb4.mono HB.out.size))
   clear ho4 hb4 HK
   go_wp2_with fail
   go_ret
   exact ⟨⟨_,rfl,HO4.out⟩,HB4.out⟩
end Go.Proofs.YtdijhifdjbnkfaaGreat.SG
namespace Go.Proofs.YtdijhifdjbnkfaaGreat.SG
open Go Go.RowKit MM VM VP VG
open GM (Zjr Foot)
theorem Zl6:(Tryz.prog.info? 65).map (·.size)=some 7:=by kernel_rfl
theorem ZcO {B g:Nat} {a w:World} (cs:Array Value) (h:Below B a w) (hg:B≤g):Below B a (w.setRow g cs) :=
 h.trans ⟨rfl,rfl,rfl,by simp [World.setRow],fun k hk=>setRow_other _ _ k cs (by omega)⟩
theorem ZxS (f0 f1 f2 f3 f4:Int) (w:World):Calls Tryz.prog 67 #[.agg #[.int .i64 0,.int .i64 0,.int .i64 f0,.int .i64 f1,.int .i64 f2,.int .i64 f3,.int .i64 f4]] w fun e w'=>e=.returned (.agg #[.int .i64 0,.int .i64 0,.int .i64 f0,.int .i64 f1,.int .i64 f2,.int .i64 f3,.int .i64 f4])∧Below w.heap.size w w':=by
 obtain ⟨X,hX⟩:∃ X:Array Value,#[.int .i64 0,.int .i64 0,.int .i64 f0,.int .i64 f1,.int .i64 f2,.int .i64 f3,.int .i64 f4]=X:=⟨_,rfl⟩
 have hxs:X.size=7:=by rw [← hX];rfl
 have hx1:X.all (·.oneCell')=true:=by rw [← hX];simp [Value.oneCell']
 obtain ⟨wb,hwb⟩:∃ wb,(w.alloc (.cells #[.int .i64 0,.int .i64 0,.int .i64 f0,.int .i64 f1,.int .i64 f2,.int .i64 f3,.int .i64 f4] 86)).alloc (.cells #[.int .i64 0,.int .i64 0,.int .i64 0,.int .i64 0,.int .i64 0,.int .i64 0,.int .i64 0] 65)=wb:=⟨_,rfl⟩
 have hbb:Below w.heap.size w wb:=by rw [← hwb];exact ((Below.refl _ _).alloc (Nat.le_refl _) _).alloc (by simp) _
 have hg0:wb.heap[w.heap.size]? = some (.cells #[.int .i64 0,.int .i64 0,.int .i64 f0,.int .i64 f1,.int .i64 f2,.int .i64 f3,.int .i64 f4] 86 (0,0)):=by
  rw [← hwb]
  exact (((Below.refl _ _).alloc (Nat.le_refl _) _).block w.heap.size (by simp)).trans (heap_alloc_new w _)
 have hg1:wb.heap[w.heap.size+1]? = some (.cells #[.int .i64 0,.int .i64 0,.int .i64 0,.int .i64 0,.int .i64 0,.int .i64 0,.int .i64 0] 65 (0,0)):=by
  rw [← hwb]
  have:=heap_alloc_new (w.alloc (.cells #[.int .i64 0,.int .i64 0,.int .i64 f0,.int .i64 f1,.int .i64 f2,.int .i64 f3,.int .i64 f4] 86)) (.cells #[.int .i64 0,.int .i64 0,.int .i64 0,.int .i64 0,.int .i64 0,.int .i64 0,.int .i64 0] 65)
  rw [World.size_alloc] at this
  exact this
 have c0:wb.cell? ⟨w.heap.size,0,none⟩=some (.int .i64 0):=Zud hg0 0
 have c1:wb.cell? ⟨w.heap.size,1,none⟩=some (.int .i64 0):=Zud hg0 1
 have c2:wb.cell? ⟨w.heap.size,2,none⟩=some (.int .i64 f0):=Zud hg0 2
 have c3:wb.cell? ⟨w.heap.size,3,none⟩=some (.int .i64 f1):=Zud hg0 3
 have c4:wb.cell? ⟨w.heap.size,4,none⟩=some (.int .i64 f2):=Zud hg0 4
 have c5:wb.cell? ⟨w.heap.size,5,none⟩=some (.int .i64 f3):=Zud hg0 5
 have c6:wb.cell? ⟨w.heap.size,6,none⟩=some (.int .i64 f4):=Zud hg0 6
 have hi:(Tryz.prog.info? 65).map (·.size)=some X.size:=by rw [hxs];exact Zl6
 have HG:=Lib.hid (setRow_heap wb (w.heap.size+1) _ X _ _ hg1)
 have HB:=Lib.hid (ZcO (g:=w.heap.size+1) X hbb (by omega))
 have HI:=Lib.hid hi
 have HXS:Hid ((#[.int .i64 0,.int .i64 0,.int .i64 0,.int .i64 0,.int .i64 0,.int .i64 0,.int .i64 0]:Array Value).size=X.size):=Lib.hid (by rw [hxs];rfl)
 have HX1:=Lib.hid hx1
 have HZ:=Lib.hid hg1
 have HX:=Lib.hid hX
 have HWB:=Lib.hid hwb
 clear hbb hg0 hg1 hX hi hx1 hxs hwb
 go_enter Tryz.func67,Tryz.ntmps67
 go_wp2_with (first | (refine wpList_store_row rfl 65 (.tmp 2) (.tmp 4) rfl (w.heap.size+1) X rfl (by rw [← HX.out];rfl) 65 #[.int .i64 0,.int .i64 0,.int .i64 0,.int .i64 0,.int .i64 0,.int .i64 0,.int .i64 0] HZ.out HI.out HXS.out HX1.out ?_) | (rw [HWB.out]))
 refine bodyPost_ret (v:=.agg X) (results_cell_row rfl _ _ (w.heap.size+1) 65 X (0,0) _ rfl HG.out Tryz.underlying65 rfl HI.out) rfl ⟨by rw [HX.out],HB.out⟩
theorem Zii (p:Foot) (w:World) (h:∀ z∈[p.1,p.2.1,p.2.2.1,p.2.2.2.1,(p.2.2.2.2:Int)], -9223372036854775808≤z∧z≤9223372036854775807) :
  Calls Tryz.prog 84 #[.agg #[.int .i64 0,.int .i64 0,.int .i64 p.1,.int .i64 p.2.1,.int .i64 p.2.2.1,.int .i64 p.2.2.2.1,.int .i64 (p.2.2.2.2:Int)]] w (Zbg w.heap.size (Zjr p) w):=by
 obtain ⟨f0,f1,f2,n⟩:=p
 obtain ⟨f3,n⟩:=n
 dsimp only at h ⊢
 obtain ⟨f4,hf4⟩:∃ z:Int,(n:Int)=z:=⟨_,rfl⟩
 have hfb:Zjr (f0,f1,f2,f3,n)=allL [f0,f1,f2,f3,f4]:=by rw [← hf4];simp [Zjr,allL]
 rw [hfb]
 rw [hf4] at h ⊢
 obtain ⟨wb,hwb⟩:∃ wb,w.alloc (.cells #[.int .i64 0,.int .i64 0,.int .i64 f0,.int .i64 f1,.int .i64 f2,.int .i64 f3,.int .i64 f4] 86)=wb:=⟨_,rfl⟩
 have hbb:Below w.heap.size w wb:=by rw [← hwb];exact (Below.refl _ _).alloc (Nat.le_refl _) _
 have hg0:wb.heap[w.heap.size]? = some (.cells #[.int .i64 0,.int .i64 0,.int .i64 f0,.int .i64 f1,.int .i64 f2,.int .i64 f3,.int .i64 f4] 86 (0,0)):=by rw [← hwb];exact heap_alloc_new w _
 have c0:wb.cell? ⟨w.heap.size,0,none⟩=some (.int .i64 0):=Zud hg0 0
 have c1:wb.cell? ⟨w.heap.size,1,none⟩=some (.int .i64 0):=Zud hg0 1
 have c2:wb.cell? ⟨w.heap.size,2,none⟩=some (.int .i64 f0):=Zud hg0 2
 have c3:wb.cell? ⟨w.heap.size,3,none⟩=some (.int .i64 f1):=Zud hg0 3
 have c4:wb.cell? ⟨w.heap.size,4,none⟩=some (.int .i64 f2):=Zud hg0 4
 have c5:wb.cell? ⟨w.heap.size,5,none⟩=some (.int .i64 f3):=Zud hg0 5
 have c6:wb.cell? ⟨w.heap.size,6,none⟩=some (.int .i64 f4):=Zud hg0 6
 have hlit:=EV.Zmh wb [f0,f1,f2,f3,f4] (by unfold maxLen;simp)
 have hbl:Below wb.heap.size wb (wb.alloc (.cells #[.int .i64 f0,.int .i64 f1,.int .i64 f2,.int .i64 f3,.int .i64 f4] 3)):=(Below.refl _ _).alloc (Nat.le_refl _) _
 have HP:=Lib.hid (Zr9 (.slice none 0 0) (.slice (some ⟨wb.heap.size,0,none⟩) 5 5) [] [f0,f1,f2,f3,f4] (wb.alloc (.cells #[.int .i64 f0,.int .i64 f1,.int .i64 f2,.int .i64 f3,.int .i64 f4] 3)) (BRow.nil_ _) (Zmk hlit) (ZiQ h) (by simp) (by simp))
 have HBB:=Lib.hid hbb
 have HBL:=Lib.hid (hbb.trans (hbl.mono hbb.size))
 have HWB:=Lib.hid hwb
 generalize allL [f0,f1,f2,f3,f4]=L at *
 clear hbb hg0 hwb hlit hbl h hfb hf4
 go_enter Tryz.func84,Tryz.ntmps84
 go_wp2_with (rw [HWB.out])
 refine HP.out.mono ?_
 rintro e w4 ⟨v4,rfl,ho4,hb4⟩
 rw [List.nil_append] at ho4
 have HO4:=Lib.hid (OwnB.weaken ho4 HBL.out.size)
 have HB4:=Lib.hid (HBL.out.trans (hb4.mono HBL.out.size))
 clear ho4 hb4 HP
 go_wp2_with fail
 go_ret
 exact ⟨_,rfl,HO4.out,HB4.out⟩
end Go.Proofs.YtdijhifdjbnkfaaGreat.SG
namespace Go.Proofs.YtdijhifdjbnkfaaGreat.SG
open Go Go.RowKit MM
open EV (docC fldC Zgn)
open SM (Doc)
open GM (Zjt Foot)
theorem Zl2:(Tryz.prog.info? 86).map (·.size)=some 7:=by kernel_rfl
def lowC (a:Int) (l:List Doc):Int:=l.foldl (fun m d=>min m d.2.1) a
def ZlL (a:Int) (l:List Doc):Int:=l.foldl (fun m d=>max m d.2.1) a
theorem ZnD {l:List Doc} {k:Nat} (hk:k<l.length) (a:Int):lowC a (l.take (k+1))=min (lowC a (l.take k)) l[k].2.1:=by
 unfold lowC
 rw [List.take_succ_eq_append_getElem hk,List.foldl_append]
 rfl
theorem ZlM {l:List Doc} {k:Nat} (hk:k<l.length) (a:Int):ZlL a (l.take (k+1))=max (ZlL a (l.take k)) l[k].2.1:=by
 unfold ZlL
 rw [List.take_succ_eq_append_getElem hk,List.foldl_append]
 rfl
theorem Zjw:∀ (r:List Doc) (a b c e:Int) (n:Nat),r.foldl GM.Zju (a,b,c,e,n+1)=(lowC a r,ZlL b r,c,(r.map (·.1)).getLastD e,n+1+r.length)
 | [],a,b,c,e,n=>rfl
 | d::r,a,b,c,e,n=>by
   have h:GM.Zju (a,b,c,e,n+1) d=(min a d.2.1,max b d.2.1,c,d.1,n+1+1):=rfl
   rw [List.foldl_cons,h,Zjw r,List.length_cons]
   have e1:n+1+1+r.length=n+1+(r.length+1):=by omega
   rw [e1,List.map_cons,List.getLastD_cons]
   rfl
theorem Zjv {l:List Doc} {n:Nat} (h:l.length=n+1):Zjt l=(lowC (l[0]'(by omega)).2.1 l,ZlL (l[0]'(by omega)).2.1 l,(l[0]'(by omega)).1,(l[n]'(by omega)).1,n+1):=by
 match l,h with
 | d::r,h =>
   have hr:r.length=n:=by simpa using h
   have h1:Zjt (d::r)=r.foldl GM.Zju (d.2.1,d.2.1,d.1,d.1,0+1):=rfl
   have h2:lowC d.2.1 (d::r)=lowC d.2.1 r:=by unfold lowC;rw [List.foldl_cons,Int.min_self]
   have h3:ZlL d.2.1 (d::r)=ZlL d.2.1 r:=by unfold ZlL;rw [List.foldl_cons,Int.max_self]
   have h4:(r.map (·.1)).getLastD d.1=((d::r)[n]'(by rw [h];omega)).1:=by
    rw [List.getLastD_eq_getLast?,List.getLast?_eq_getElem?]
    cases n with
    | zero =>
      have:r=[]:=List.eq_nil_of_length_eq_zero hr
      subst this
      rfl
    | succ n =>
      rw [List.length_map,hr,Nat.add_sub_cancel,List.getElem?_map,List.getElem?_eq_getElem (by omega)]
      rfl
   rw [h1,Zjw,List.getElem_cons_zero,h2,h3,h4,hr]
   congr 4
   omega
theorem Zjy (v:Value) (l:List Doc) (w:World) (hv:RAny docC w v l) (h0:l≠[]):Calls Tryz.prog 53 #[v] w fun e w'=>e=.returned (.agg #[.int .i64 0,.int .i64 0,.int .i64 (Zjt l).1,.int .i64 (Zjt l).2.1,.int .i64 (Zjt l).2.2.1,.int .i64 (Zjt l).2.2.2.1,.int .i64 ((Zjt l).2.2.2.2:Int)])∧Below w.heap.size w w':=by
 obtain ⟨p,cap,rfl,hlc,hcm,_⟩:=hv.shape
 unfold maxLen at hcm
 have hn:=List.length_pos_iff.2 h0
 obtain ⟨n,hnn⟩:∃ n,l.length=n+1:=⟨l.length - 1,by omega⟩
 obtain ⟨wa,hwa⟩:∃ wa,w.alloc (.cells #[.int .i64 0,.int .i64 0,.int .i64 0,.int .i64 0,.int .i64 0,.int .i64 0,.int .i64 0] 86)=wa:=⟨_,rfl⟩
 have hba:Below w.heap.size w wa:=by rw [← hwa];exact (Below.refl _ _).alloc (Nat.le_refl _) _
 obtain ⟨b,off,vf,rfl,hbl,_,c1,c2,c3,hf⟩:=Zgn (hv.below hba) (k:=0) (by omega)
 obtain ⟨b2,off2,vf2,hp2,hbl2,_,e1,e2,e3,hf2⟩:=Zgn (hv.below hba) (k:=n) (by omega)
 simp only [Option.some.injEq,Addr.mk.injEq,and_true] at hp2
 obtain ⟨rfl,rfl⟩:=hp2
 have hF:=Zjv hnn
 have HLO:=Lib.hid (fun k (hk:k<l.length)=>ZnD hk (l[0]'(by omega)).2.1)
 have HHI:=Lib.hid (fun k (hk:k<l.length)=>ZlM hk (l[0]'(by omega)).2.1)
 have HTK:Hid (l.take (n+1)=l):=Lib.hid (by rw [← hnn,List.take_length])
 obtain ⟨⟨sq,⟨t,fs⟩⟩,hd⟩:∃ d,(l[0]'(by omega))=d:=⟨_,rfl⟩
 obtain ⟨⟨sq2,⟨t2,fs2⟩⟩,hd2⟩:∃ d,(l[n]'(by omega))=d:=⟨_,rfl⟩
 rw [hd] at c1 c2 hf hF HLO HHI
 rw [hd2] at e1 e2 hf2 hF
 dsimp only at c1 c2 hf e1 e2 hf2 hF HLO HHI
 obtain ⟨LO,hLO⟩:∃ x,lowC t l=x:=⟨_,rfl⟩
 obtain ⟨HI,hHI⟩:∃ x,ZlL t l=x:=⟨_,rfl⟩
 rw [hLO,hHI] at hF
 rw [hF]
 dsimp only
 have HLOE:=Lib.hid hLO
 have HHIE:=Lib.hid hHI
 obtain ⟨pf,cf,rfl,_⟩:=hf.shape
 obtain ⟨pf2,cf2,rfl,_⟩:=hf2.shape
 rw [Nat.zero_mul,Nat.add_zero] at c1 c2 c3
 have HV:=Lib.hid hv.bel
 rw [hnn] at hlc HV ⊢
 obtain ⟨N,hN⟩:∃ N:Int,((n+1:Nat):Int)=N:=⟨_,rfl⟩
 have i0:(0:Int)<((n+1:Nat):Int):=by omega
 have i1:IntKind.i64.wrap (((n+1:Nat):Int) - 1)=(n:Int):=by rw [IntWalk.i64_left];rw [IntWalk.wrap64_in _ ⟨by omega,by omega⟩];omega
 have i2:(n:Int)<((n+1:Nat):Int):=by omega
 have hgz:wa.heap[w.heap.size]? = some (.cells #[.int .i64 0,.int .i64 0,.int .i64 0,.int .i64 0,.int .i64 0,.int .i64 0,.int .i64 0] 86 (0,0)):=by rw [← hwa];exact heap_alloc_new _ _
 have hza:w.heap.size<wa.heap.size:=(Array.getElem?_eq_some_iff.1 hgz).1
 have HWA:=Lib.hid hwa
 have HBA:=Lib.hid hba
 have HGZ:=Lib.hid hgz
 have HNN:=Lib.hid hnn
 have HN:=Lib.hid hN
 clear hf hf2 hba hwa h0 hv hF hLO hHI hgz hnn hd hd2 hN hn
 go_enter Tryz.func53,Tryz.ntmps53
 go_wp2_with (rw [HWA.out])
 go_region
 all_goals (
  first
  | (
    obtain ⟨W,hW⟩:∃ W,((wa.alloc (.cells #[.int .i64 sq2,.int .i64 t2,.slice pf2 fs2.length cf2] 59)).alloc (.cells #[.int .i64 sq,.int .i64 t,.slice pf fs.length cf] 59)).drew=W:=⟨_,rfl⟩
    have hbW:Below wa.heap.size wa W:=by rw [← hW];exact (((Below.refl _ _).alloc (Nat.le_refl _) _).alloc (by simp) _).drew
    have hX:Zbz W (wa.heap.size+1) 59 (.int .i64 sq) (.int .i64 t) (.slice pf fs.length cf):=by
     rw [← hW]
     have:=ZxD (wa.alloc (.cells #[.int .i64 sq2,.int .i64 t2,.slice pf2 fs2.length cf2] 59)) 59 (.int .i64 sq) (.int .i64 t) (.slice pf fs.length cf)
     rw [World.size_alloc] at this
     exact this.keep (ZmV (fun _=>True) _) trivial
    have hY:Zbz W wa.heap.size 59 (.int .i64 sq2) (.int .i64 t2) (.slice pf2 fs2.length cf2):=by
     rw [← hW]
     exact ((ZxD wa 59 _ _ _).keep (ZmS (fun _=>True) _ _) trivial).keep (ZmV (fun _=>True) _) trivial
    obtain ⟨a3,ha3⟩:∃ a,wa.heap.size+1=a:=⟨_,rfl⟩
    rw [hW,ha3]
    rw [ha3] at hX
    obtain ⟨a4,ha4⟩:∃ a,wa.heap.size=a:=⟨_,rfl⟩
    rw [ha4]
    have hX2:=hX
    have hY2:=hY
    rw [ha4] at hY2
    clear hW ha3 hX hY)
  | (
    obtain ⟨W,hW⟩:∃ W,((wa.alloc (.cells #[.int .i64 sq,.int .i64 t,.slice pf fs.length cf] 59)).alloc (.cells #[.int .i64 sq2,.int .i64 t2,.slice pf2 fs2.length cf2] 59)).drew=W:=⟨_,rfl⟩
    have hbW:Below wa.heap.size wa W:=by rw [← hW];exact (((Below.refl _ _).alloc (Nat.le_refl _) _).alloc (by simp) _).drew
    have hY:Zbz W (wa.heap.size+1) 59 (.int .i64 sq2) (.int .i64 t2) (.slice pf2 fs2.length cf2):=by
     rw [← hW]
     have:=ZxD (wa.alloc (.cells #[.int .i64 sq,.int .i64 t,.slice pf fs.length cf] 59)) 59 (.int .i64 sq2) (.int .i64 t2) (.slice pf2 fs2.length cf2)
     rw [World.size_alloc] at this
     exact this.keep (ZmV (fun _=>True) _) trivial
    have hX:Zbz W wa.heap.size 59 (.int .i64 sq) (.int .i64 t) (.slice pf fs.length cf):=by
     rw [← hW]
     exact ((ZxD wa 59 _ _ _).keep (ZmS (fun _=>True) _ _) trivial).keep (ZmV (fun _=>True) _) trivial
    obtain ⟨a4,ha4⟩:∃ a,wa.heap.size+1=a:=⟨_,rfl⟩
    rw [hW,ha4]
    rw [ha4] at hY
    obtain ⟨a3,ha3⟩:∃ a,wa.heap.size=a:=⟨_,rfl⟩
    rw [ha3]
    have hX2:=hX
    have hY2:=hY
    rw [ha3] at hX2
    clear hW ha4 hX hY)
  obtain ⟨x0,x1,x2⟩:=hX2.cells
  obtain ⟨y0,y1,y2⟩:=hY2.cells
  have hn1:((n:Int)+1)=N:=by rw [← HN.out];omega
  have HBW:=Lib.hid (HBA.out.trans (hbW.mono HBA.out.size))
  have HGW:=Lib.hid ((hbW.block _ hza).trans HGZ.out)
  clear hX2 hY2 hbW c1 c2 c3 e1 e2 e3 HWA
  obtain ⟨g5,hg5⟩:∃ g,W.heap.size=g:=⟨_,rfl⟩
  obtain ⟨W5,hW5⟩:∃ W5,W.alloc (.cells #[.int .i64 0,.int .i64 0,.int .i64 t,.int .i64 t,.int .i64 sq,.int .i64 sq2,.int .i64 N] 65)=W5:=⟨_,rfl⟩
  have HP5:Hid (W5.heap[g5]? = some (.cells #[.int .i64 0,.int .i64 0,.int .i64 t,.int .i64 t,.int .i64 sq,.int .i64 sq2,.int .i64 N] 65 (0,0))):=Lib.hid (by rw [← hW5,← hg5];exact heap_alloc_new _ _)
  have hb5:Below W.heap.size W W5:=by rw [← hW5];exact (Below.refl _ _).alloc (Nat.le_refl _) _
  have HB5:=Lib.hid (HBW.out.trans (hb5.mono HBW.out.size))
  have HG5:=Lib.hid ((hb5.block _ (Array.getElem?_eq_some_iff.1 HGW.out).1).trans HGW.out)
  have HZL:Hid (w.heap.size<g5):=Lib.hid (by rw [← hg5];exact (Array.getElem?_eq_some_iff.1 HGW.out).1)
  have HW5:=Lib.hid hW5
  clear hW5 hb5
  go_wp2_with (rw [HW5.out])
  have H0:Hid (lowC t (l.take 0)=t∧ZlL t (l.take 0)=t):=Lib.hid ⟨rfl,rfl⟩
  have HK0:Hid (Below w.heap.size w W5):=HB5
  go_loopw [32] (fun iv wr=>∃ (k:Nat) (lo hi:Int),k≤n+1∧iv=.int .i64 k∧Hid (lowC t (l.take k)=lo∧ZlL t (l.take k)=hi)∧Hid (wr.heap[g5]? = some (.cells #[.int .i64 0,.int .i64 0,.int .i64 lo,.int .i64 hi,.int .i64 sq,.int .i64 sq2,.int .i64 N] 65 (0,0)))∧Hid (wr.heap[w.heap.size]? = some (.cells #[.int .i64 0,.int .i64 0,.int .i64 0,.int .i64 0,.int .i64 0,.int .i64 0,.int .i64 0] 86 (0,0)))∧Hid (Below w.heap.size w wr)) (fun iv _=>n+1 - (intOf iv).toNat)
  case atStart=>exact ⟨0,t,t,by omega,rfl,H0,HP5,HG5,HK0⟩
  case round =>
   obtain ⟨k,lo,hi,hk,rfl,HLH,HP,HG,HB⟩:=hrel
   clear H0 HK0 HP5 HG5 HB5 x0 x1 x2 y0 y1 y2
   by_cases hlt:k<n+1
   ·have q1:decide ((k:Int)<((n+1:Nat):Int))=true:=by rw [decide_eq_true_eq];omega
    have q2:decide ((k:Int)<N)=true:=by rw [decide_eq_true_eq,← HN.out];omega
    have q3:decide (k<n+1)=true:=by rw [decide_eq_true_eq];omega
    have q4:(k:Int)<((n+1:Nat):Int):=by omega
    have q5:(k:Int)<N:=by rw [← HN.out];omega
    have hkl:k<l.length:=by rw [HNN.out];omega
    obtain ⟨bk,ok,vk,hpk,hbk,_,c1,c2,c3,hfk⟩:=Zgn (ROn.keep HV.out (ZmX HB.out) fun _ _ h=>h) hkl
    simp only [Option.some.injEq,Addr.mk.injEq,and_true] at hpk
    obtain ⟨rfl,rfl⟩:=hpk
    have hlo:=HLO.out k hkl
    have hhi:=HHI.out k hkl
    rw [HLH.out.1] at hlo
    rw [HLH.out.2] at hhi
    obtain ⟨⟨sk,⟨tk,fk⟩⟩,hdk⟩:∃ d,l[k]=d:=⟨_,rfl⟩
    rw [hdk] at c1 c2 hfk hlo hhi
    dsimp only at c1 c2 hfk hlo hhi
    obtain ⟨pk,ck,rfl,_⟩:=hfk.shape
    obtain ⟨m1,hm1⟩:∃ m,min lo tk=m:=⟨_,rfl⟩
    obtain ⟨m2,hm2⟩:∃ m,max hi tk=m:=⟨_,rfl⟩
    rw [hm1] at hlo
    rw [hm2] at hhi
    have hm1a:(if tk<lo then tk else lo)=m1:=by rw [← hm1];split<;>omega
    have hm2a:(if hi<tk then tk else hi)=m2:=by rw [← hm2];split<;>omega
    obtain ⟨q,hq⟩:∃ q,wr.heap.size=q:=⟨_,rfl⟩
    obtain ⟨w1,hw1⟩:∃ w1,wr.alloc (.cells #[.int .i64 sk,.int .i64 tk,.slice pk fk.length ck] 59)=w1:=⟨_,rfl⟩
    have hb1:Below wr.heap.size wr w1:=by rw [← hw1];exact (Below.refl _ _).alloc (Nat.le_refl _) _
    have hgl:=(Array.getElem?_eq_some_iff.1 HP.out).1
    have hzl:=HZL.out
    have tb:Zbz w1 q 59 (.int .i64 sk) (.int .i64 tk) (.slice pk fk.length ck):=by rw [← hw1,← hq];exact ZxD wr 59 _ _ _
    have p1:w1.heap[g5]? = some (.cells #[.int .i64 0,.int .i64 0,.int .i64 lo,.int .i64 hi,.int .i64 sq,.int .i64 sq2,.int .i64 N] 65 (0,0)):=(hb1.block g5 hgl).trans HP.out
    have d1:w1.cell? ⟨g5,2,none⟩=some (.int .i64 lo):=Zud p1 2
    have d2:w1.frozen? ⟨g5,2,none⟩=false:=frozen_of_row w1 g5 2 _ _ p1
    have u1:w1.cell? ⟨q,1,none⟩=some (.int .i64 tk):=tb.c1
    have p2:(w1.setCell ⟨g5,2,none⟩ (.int .i64 m1)).heap[g5]? = some (.cells #[.int .i64 0,.int .i64 0,.int .i64 m1,.int .i64 hi,.int .i64 sq,.int .i64 sq2,.int .i64 N] 65 (0,0)):=heap_setCell_same w1 g5 2 _ _ _ p1
    have d3:(w1.setCell ⟨g5,2,none⟩ (.int .i64 m1)).cell? ⟨g5,3,none⟩=some (.int .i64 hi):=Zud p2 3
    have d4:(w1.setCell ⟨g5,2,none⟩ (.int .i64 m1)).frozen? ⟨g5,3,none⟩=false:=frozen_of_row _ g5 3 _ _ p2
    have hk2:Kep (fun b=>b≠g5) w1 (w1.setCell ⟨g5,2,none⟩ (.int .i64 m1)):=ZmZ (fun h=>h rfl) _
    have hqg:q≠g5:=by omega
    have u2:(w1.setCell ⟨g5,2,none⟩ (.int .i64 m1)).cell? ⟨q,1,none⟩=some (.int .i64 tk):=(tb.keep hk2 hqg).c1
    have hk3:Kep (fun b=>b≠g5) w1 ((w1.setCell ⟨g5,2,none⟩ (.int .i64 m1)).setCell ⟨g5,3,none⟩ (.int .i64 m2)):=hk2.trans (ZmZ (fun h=>h rfl) _)
    have HP3:Hid (((w1.setCell ⟨g5,2,none⟩ (.int .i64 m1)).setCell ⟨g5,3,none⟩ (.int .i64 m2)).heap[g5]? = some (.cells #[.int .i64 0,.int .i64 0,.int .i64 m1,.int .i64 m2,.int .i64 sq,.int .i64 sq2,.int .i64 N] 65 (0,0))):=Lib.hid (heap_setCell_same _ g5 3 _ _ _ p2)
    have hgl0:=(Array.getElem?_eq_some_iff.1 HG.out).1
    have HG3:=Lib.hid ((hk3.block w.heap.size (by have:=hb1.size;omega) (by omega)).trans ((hb1.block _ hgl0).trans HG.out))
    have HB3:=Lib.hid ((HB.out.trans (hb1.mono HB.out.size)).trans (hk3.below (Nat.le_trans HB.out.size hb1.size) fun b hb=>by omega))
    have HLH3:=Lib.hid (show lowC t (l.take (k+1))=m1∧ZlL t (l.take (k+1))=m2 from ⟨hlo,hhi⟩)
    have HW1:=Lib.hid hw1
    clear hb1 hw1 hfk hdk p1 p2 hk2 hk3 tb hlo hhi HLH HP HG HB hgl hgl0
    go_wp2_with (rw [HW1.out])
    go_roundw
    case rel=>exact ⟨k+1,m1,m2,by omega,by go_num,HLH3,HP3,HG3,HB3⟩
    case measure=>simp [intOf];omega
   ·obtain rfl:k=n+1:=by omega
    have q1:decide (((n+1:Nat):Int)<((n+1:Nat):Int))=false:=by simp
    have q2:decide (((n+1:Nat):Int)<N)=false:=by rw [decide_eq_false_iff_not,← HN.out];omega
    have hlh:=HLH.out
    rw [HTK.out,HLOE.out,HHIE.out] at hlh
    obtain ⟨e1,e2⟩:=hlh
    have hp:=HP.out
    rw [← e1,← e2] at hp
    clear e1 e2
    have c0:wr.cell? ⟨g5,0,none⟩=some (.int .i64 0):=Zud hp 0
    have c1:wr.cell? ⟨g5,1,none⟩=some (.int .i64 0):=Zud hp 1
    have c2:wr.cell? ⟨g5,2,none⟩=some (.int .i64 LO):=Zud hp 2
    have c3:wr.cell? ⟨g5,3,none⟩=some (.int .i64 HI):=Zud hp 3
    have c4:wr.cell? ⟨g5,4,none⟩=some (.int .i64 sq):=Zud hp 4
    have c5:wr.cell? ⟨g5,5,none⟩=some (.int .i64 sq2):=Zud hp 5
    have c6:wr.cell? ⟨g5,6,none⟩=some (.int .i64 N):=Zud hp 6
    obtain ⟨X,hX⟩:∃ X:Array Value,#[.int .i64 0,.int .i64 0,.int .i64 LO,.int .i64 HI,.int .i64 sq,.int .i64 sq2,.int .i64 N]=X:=⟨_,rfl⟩
    have hxs:X.size=7:=by rw [← hX];rfl
    have HX1:Hid (X.all (·.oneCell')=true):=Lib.hid (by rw [← hX];simp [Value.oneCell'])
    have HI7:Hid ((Tryz.prog.info? 86).map (·.size)=some X.size):=Lib.hid (by rw [hxs];exact Zl2)
    have HG9:=Lib.hid (setRow_heap wr w.heap.size _ X _ _ HG.out)
    have HB9:=Lib.hid (ZcO (g:=w.heap.size) X HB.out (Nat.le_refl _))
    have HXS:Hid ((#[.int .i64 0,.int .i64 0,.int .i64 0,.int .i64 0,.int .i64 0,.int .i64 0,.int .i64 0]:Array Value).size=X.size):=Lib.hid (by rw [hxs];rfl)
    have HX:=Lib.hid hX
    clear hX hxs hp HLH HP hlt
    go_wp2_with (refine wpList_store_row rfl 86 (.tmp 2) (.tmp 52) rfl w.heap.size X rfl (by rw [← HX.out];rfl) 86 #[.int .i64 0,.int .i64 0,.int .i64 0,.int .i64 0,.int .i64 0,.int .i64 0,.int .i64 0] HG.out HI7.out HXS.out HX1.out ?_)
    refine bodyPost_ret (v:=.agg X) (results_cell_row rfl _ _ w.heap.size 86 X (0,0) _ rfl HG9.out Tryz.underlying86 rfl HI7.out) rfl ⟨by rw [← HX.out,HN.out],HB9.out⟩)
end Go.Proofs.YtdijhifdjbnkfaaGreat.SG
namespace Go.Proofs.YtdijhifdjbnkfaaGreat.DT
open Go Go.RowKit MM DM VM
open EM (Znl Znp Zns Znr Zky)
theorem Zpg {m:Nat} {l:List UInt8} (o:Bool) (h:(getL l).2.2=0) (h2:(getL l).1≤m):Zo4 m l o=((getL l).1,l.drop (getL l).2.1,o):=by
 unfold Zo4 VG.Zs0
 rw [if_pos ⟨h,h2⟩,if_pos h]
theorem Zpd (m:Nat) (l:List UInt8) (o:Bool):(Zo4 m l o).1≤m:=by
 unfold Zo4
 split
 ·rename_i h;exact h.2
 ·exact Nat.zero_le _
theorem Zph {n m:Nat} (h:n≤m) (hn:n<18446744073709551616) (r:List UInt8) (o:Bool):Zo4 m (Zd8 n++r) o=(n,r,o):=by
 have e:=Zkj n hn r
 rw [Zpg o (by rw [e]) (by rw [e];exact h),e]
 dsimp only
 rw [List.drop_left]
theorem Zpc {m:Nat} {l:List UInt8} {o:Bool} (h:(Zo4 m l o).2.2=false):o=false∧Zd8 (Zo4 m l o).1++(Zo4 m l o).2.1=l:=by
 by_cases h1:(getL l).2.2=0∧(getL l).1≤m
 ·rw [Zpg o h1.1 h1.2] at h ⊢
  exact ⟨h,Zkg (Prod.ext rfl (Prod.ext rfl h1.1))⟩
 ·unfold Zo4 at h
  rw [if_neg h1] at h
  cases h
theorem Zyl {m:Int} {l:List UInt8} (o:Bool) (h:(getT l m).2.2=0):Zyg m l o=((getT l m).1,l.drop (getT l m).2.1,o):=by
 unfold Zyg VG.Zs7
 rw [if_pos h,h]
 simp
theorem Zym {s:List UInt8} {m:Int} (h:(s.length:Int)≤m) (hs:s.length<18446744073709551616) (r:List UInt8) (o:Bool):Zyg m (Zxu s++r) o=(s,r,o):=by
 have e:=ZkB s hs m h r
 rw [Zyl o (by rw [e]),e]
 dsimp only
 rw [List.drop_left]
theorem Zyh {m:Int} {l:List UInt8} {o:Bool} (h:(Zyg m l o).2.2=false):o=false∧Zxu (Zyg m l o).1++(Zyg m l o).2.1=l:=by
 by_cases h1:(getT l m).2.2=0
 ·rw [Zyl o h1] at h ⊢
  exact ⟨h,(Zky (Prod.ext rfl (Prod.ext rfl h1))).1⟩
 ·unfold Zyg at h
  have:((getT l m).2.2 != 0)=true:=by rw [bne_iff_ne];exact h1
  rw [this] at h
  simp at h
theorem Zyi (m:Int) (l:List UInt8) (o:Bool):((Zyg m l o).1.length:Int)≤max 0 m:=by
 have:(Zyg m l o).1=(getT l m).1:=rfl
 rw [this]
 by_cases h1:(getT l m).2.2=0
 ·exact (Zky (Prod.ext rfl (Prod.ext rfl h1))).2.1
 ·unfold getT at h1 ⊢
  split
  ·simp;omega
  ·split
   ·simp;omega
   ·split
    ·simp;omega
    ·rename_i h2 h3 h4
     rw [if_neg h2,if_neg h3,if_neg h4] at h1
     exact absurd rfl h1
theorem Zpf (m:Nat) (l:List UInt8):(Zo4 m l true).2.2=true:=by
 unfold Zo4
 split<;>rfl
def okW (x:Ent):Prop:=x.1.length≤65∧(0≤x.2.1∧x.2.1≤67108864)∧(0≤x.2.2.1∧x.2.2.1≤67108864)∧(0≤x.2.2.2∧x.2.2.2≤67108864)
theorem Zpz {x:Ent}:okX x=true↔1≤x.1.length∧okW x:=by
 rw [Zpy]
 unfold okW
 constructor
 ·rintro ⟨⟨h1,h2⟩,h3⟩;exact ⟨h1,h2,h3⟩
 ·rintro ⟨h1,h2,h3⟩;exact ⟨⟨h1,h2⟩,h3⟩
def Zw7 (a l:List UInt8) (o:Bool):List UInt8×List UInt8×Bool :=
 (a.take (Zo4 a.length l o).1++(Zyg (65 - ((Zo4 a.length l o).1:Int)) (Zo4 a.length l o).2.1 (Zo4 a.length l o).2.2).1,(Zyg (65 - ((Zo4 a.length l o).1:Int)) (Zo4 a.length l o).2.1 (Zo4 a.length l o).2.2).2)
def ZlI (a l:List UInt8) (o:Bool):List UInt8×Bool :=
 if ZvE a (Zw7 a l o).1=(Zo4 a.length l o).1 then (Zw7 a l o).2 else ([],true)
def ZxX (l:List UInt8) (o:Bool):(Nat×Nat×Nat)×List UInt8×Bool :=
 (((Zo4 67108864 l o).1,(Zo4 67108864 (Zo4 67108864 l o).2.1 (Zo4 67108864 l o).2.2).1,(Zo4 67108864 (Zo4 67108864 (Zo4 67108864 l o).2.1 (Zo4 67108864 l o).2.2).2.1 (Zo4 67108864 (Zo4 67108864 l o).2.1 (Zo4 67108864 l o).2.2).2.2).1),
   (Zo4 67108864 (Zo4 67108864 (Zo4 67108864 l o).2.1 (Zo4 67108864 l o).2.2).2.1 (Zo4 67108864 (Zo4 67108864 l o).2.1 (Zo4 67108864 l o).2.2).2.2).2)
def Zhs (a l:List UInt8) (o:Bool):Ent×List UInt8×Bool :=
 (((Zw7 a l o).1,((ZxX (ZlI a l o).1 (ZlI a l o).2).1.1:Int),((ZxX (ZlI a l o).1 (ZlI a l o).2).1.2.1:Int),((ZxX (ZlI a l o).1 (ZlI a l o).2).1.2.2:Int)),(ZxX (ZlI a l o).1 (ZlI a l o).2).2)
theorem Zx0 {a b c:Nat} (ha:a≤67108864) (hb:b≤67108864) (hc:c≤67108864) (r:List UInt8) (o:Bool):ZxX (Zd8 a++(Zd8 b++(Zd8 c++r))) o=((a,b,c),r,o):=by
 unfold ZxX
 rw [Zph ha (by omega)]
 dsimp only
 rw [Zph hb (by omega)]
 dsimp only
 rw [Zph hc (by omega)]
theorem ZxY {l:List UInt8} {o:Bool} (h:(ZxX l o).2.2=false):o=false∧Zd8 (ZxX l o).1.1++(Zd8 (ZxX l o).1.2.1++(Zd8 (ZxX l o).1.2.2++(ZxX l o).2.1))=l:=by
 unfold ZxX at h ⊢
 dsimp only at h ⊢
 obtain ⟨h1,e1⟩:=Zpc h
 obtain ⟨h2,e2⟩:=Zpc h1
 obtain ⟨h3,e3⟩:=Zpc h2
 refine ⟨h3,?_⟩
 rw [e1,e2,e3]
theorem ZxZ (l:List UInt8) (o:Bool):(ZxX l o).1.1≤67108864∧(ZxX l o).1.2.1≤67108864∧(ZxX l o).1.2.2≤67108864:=⟨Zpd _ _ _,Zpd _ _ _,Zpd _ _ _⟩
theorem Zw9 {a:List UInt8} (ha:a.length≤65) (l:List UInt8) (o:Bool):(Zw7 a l o).1.length≤65:=by
 unfold Zw7
 have h1:=Zpd a.length l o
 generalize Zo4 a.length l o=s at *
 have h2:=Zyi (65 - (s.1:Int)) s.2.1 s.2.2
 dsimp only
 rw [List.length_append,List.length_take]
 omega
theorem ZhA {a:List UInt8} (ha:a.length≤65) (l:List UInt8) (o:Bool):okW (Zhs a l o).1:=by
 have h:=ZxZ (ZlI a l o).1 (ZlI a l o).2
 have h2:=Zw9 ha l o
 unfold Zhs okW
 dsimp only
 omega
theorem Zhy {a:List UInt8} {x:Ent} (hx:okW x) (ha:a.length≤65) (r:List UInt8) (o:Bool):Zhs a (entB a x++r) o=(x,r,o):=by
 obtain ⟨h1,h3,h4,h5⟩:=hx
 have hs:=ZvG a x.1
 have n1:Zo4 a.length (entB a x++r) o=(ZvE a x.1,(Zxu (x.1.drop (ZvE a x.1))++(Zd8 x.2.1.toNat++(Zd8 x.2.2.1.toNat++(Zd8 x.2.2.2.toNat++r)))),o):=by
  unfold entB
  simp only [List.append_assoc]
  exact Zph hs.1 (by omega) _ _
 have n2:Zw7 a (entB a x++r) o=(x.1,(Zd8 x.2.1.toNat++(Zd8 x.2.2.1.toNat++(Zd8 x.2.2.2.toNat++r))),o):=by
  unfold Zw7
  rw [n1]
  dsimp only
  rw [Zym (by rw [List.length_drop];omega) (by rw [List.length_drop];omega)]
  dsimp only
  rw [ZvH,List.take_append_drop]
 have n3:ZlI a (entB a x++r) o=((Zd8 x.2.1.toNat++(Zd8 x.2.2.1.toNat++(Zd8 x.2.2.2.toNat++r))),o):=by
  unfold ZlI
  rw [n1,n2]
  dsimp only
  rw [if_pos rfl]
 unfold Zhs
 rw [n3,n2]
 dsimp only
 rw [Zx0 (by omega) (by omega) (by omega)]
 obtain ⟨t,p,m,n⟩:=x
 dsimp only at h3 h4 h5 ⊢
 rw [show ((p.toNat:Nat):Int)=p by omega,show ((m.toNat:Nat):Int)=m by omega,show ((n.toNat:Nat):Int)=n by omega]
theorem Zhu {a l:List UInt8} {o:Bool} (h:(Zhs a l o).2.2=false):o=false∧entB a (Zhs a l o).1++(Zhs a l o).2.1=l:=by
 have h0:(ZxX (ZlI a l o).1 (ZlI a l o).2).2.2=false:=h
 obtain ⟨h1,e1⟩:=ZxY h0
 unfold ZlI at h1
 by_cases hs:ZvE a (Zw7 a l o).1=(Zo4 a.length l o).1
 ·rw [if_pos hs] at h1
  have e2:ZlI a l o=(Zw7 a l o).2:=by unfold ZlI;rw [if_pos hs]
  obtain ⟨h3,e3⟩:=Zyh (show (Zyg (65 - ((Zo4 a.length l o).1:Int)) (Zo4 a.length l o).2.1 (Zo4 a.length l o).2.2).2.2=false from h1)
  obtain ⟨h4,e4⟩:=Zpc h3
  refine ⟨h4,?_⟩
  unfold entB Zhs
  dsimp only
  rw [hs]
  simp only [List.append_assoc,Int.toNat_natCast]
  rw [e1,e2]
  have e5:(Zw7 a l o).1.drop (Zo4 a.length l o).1=(Zyg (65 - ((Zo4 a.length l o).1:Int)) (Zo4 a.length l o).2.1 (Zo4 a.length l o).2.2).1:=by
   unfold Zw7
   dsimp only
   have:=Zpd a.length l o
   rw [List.drop_append,List.drop_of_length_le (by rw [List.length_take];omega),List.nil_append,List.length_take,Nat.min_eq_left this,Nat.sub_self,List.drop_zero]
  rw [e5]
  rw [show (Zw7 a l o).2.1=(Zyg (65 - ((Zo4 a.length l o).1:Int)) (Zo4 a.length l o).2.1 (Zo4 a.length l o).2.2).2.1 from rfl,e3,e4]
 ·rw [if_neg hs] at h1
  cases h1
def ZhI:Nat→List UInt8→List Ent→List UInt8→Bool→List Ent×List UInt8×Bool
 | 0,_,acc,l,o=>(acc,l,o)
 | f+1,a,acc,l,o=>if l=[] then (acc,l,o) else ZhI f (Zhs a l o).1.1 (acc++[(Zhs a l o).1]) (Zhs a l o).2.1 (Zhs a l o).2.2
theorem Zhr (a:List UInt8) (x:Ent):entB a x≠[]:=fun h=>by
 have h1:=(Zea (ZvE a x.1)).1
 have:=congrArg List.length h
 unfold entB at this
 simp at this
 rw [this.1] at h1
 simp at h1
theorem ZhQ:∀ (l:List Ent) (f:Nat) (a:List UInt8) (acc:List Ent) (o:Bool),(∀ x∈l,okW x)→a.length≤65→l.length≤f→ZhI f a acc (Zdm a l) o=(acc++l,[],o)
 | [],0,a,acc,o,_,_,_=>by simp [ZhI,Zdm]
 | [],f+1,a,acc,o,_,_,_=>by simp [ZhI,Zdm]
 | x::l,0,a,acc,o,_,_,h=>by simp at h
 | x::l,f+1,a,acc,o,h,ha,hf=>by
   have hx:=h x (by simp)
   rw [ZhI,Zdm,if_neg (fun e=>Zhr a x (List.append_eq_nil_iff.1 e).1),Zhy hx ha]
   dsimp only
   rw [ZhQ l f x.1 (acc++[x]) o (fun y hy=>h y (by simp [hy])) hx.1 (by simpa using hf),List.append_assoc]
   rfl
theorem ZhL:∀ (f:Nat) (a:List UInt8) (acc:List Ent) (l:List UInt8) (o:Bool),a.length≤65→(ZhI f a acc l o).2.1=[]→(ZhI f a acc l o).2.2=false →
  o=false∧∃ m,(ZhI f a acc l o).1=acc++m∧Zdm a m=l∧m.length≤f∧∀ x∈m,okW x
 | 0,a,acc,l,o,ha,h1,h2=>by
   rw [ZhI] at h1 h2 ⊢
   exact ⟨h2,[],by simp,by rw [show l=[] from h1];rfl,by simp,by simp⟩
 | f+1,a,acc,l,o,ha,h1,h2=>by
   rw [ZhI] at h1 h2 ⊢
   by_cases hl:l=[]
   ·rw [if_pos hl] at h1 h2 ⊢
    exact ⟨h2,[],by simp,by rw [hl];rfl,by simp,by simp⟩
   ·rw [if_neg hl] at h1 h2 ⊢
    have hw:=ZhA ha l o
    obtain ⟨h3,m,e1,e2,e3,e4⟩:=ZhL f _ _ _ _ hw.1 h1 h2
    obtain ⟨h5,e5⟩:=Zhu h3
    refine ⟨h5,(Zhs a l o).1::m,by rw [e1];simp,by rw [Zdm,e2,e5],by simpa using e3,fun x hx => ?_⟩
    rcases List.mem_cons.1 hx with rfl | hx
    ·exact hw
    ·exact e4 x hx
def Ztt:List UInt8→List Ent→Bool
 | _,[]=>true
 | t,x::r=>Znl t x.1&&Ztt x.1 r
theorem Znv {t:List UInt8} (h:1≤t.length):Znl [] t=true:=by
 cases t with
 | nil=>simp at h
 | cons a t=>rfl
theorem Znw {t u:List UInt8} (h:Znl t u=true):1≤u.length:=by
 cases u with
 | nil=>cases t<;>simp [Znl] at h
 | cons a u=>simp
theorem Zcx:∀ (l:List Ent) (t:List UInt8),areR (some t) l=true↔(∀ x∈l,okW x)∧Ztt t l=true
 | [],t=>by simp [areR,Ztt]
 | x::r,t=>by
   rw [Zcv,Ztt,Bool.and_eq_true,Bool.and_eq_true,Bool.and_eq_true,Zcx r x.1,Zpz]
   simp only [List.mem_cons,forall_eq_or_imp]
   constructor
   ·rintro ⟨⟨⟨_,h1⟩,h2⟩,h3,h4⟩;exact ⟨⟨h1,h3⟩,h2,h4⟩
   ·rintro ⟨⟨h1,h3⟩,h2,h4⟩;exact ⟨⟨⟨Znw h2,h1⟩,h2⟩,h3,h4⟩
theorem Zcw (l:List Ent):areR none l=true↔(∀ x∈l,okW x)∧Ztt [] l=true:=by
 rw [← Zcx]
 cases l with
 | nil=>simp [areR]
 | cons x r =>
   rw [Zcv,Zcv]
   by_cases h:okX x=true
   ·have h1:Ztr (some []) x.1=true:=Znv (Zpz.1 h).1
    rw [h1]
    rfl
   ·have:okX x=false:=by simpa using h
    rw [this]
    simp
theorem Ztv:∀ (l m:List Ent) (t:List UInt8),Ztt t (l++m)=(Ztt t l&&Ztt ((l.getLast?.map (·.1)).getD t) m)
 | [],m,t=>by simp [Ztt]
 | x::l,m,t=>by
   rw [List.cons_append,Ztt,Ztt,Ztv l m x.1,Bool.and_assoc]
   cases l<;>simp [List.getLast?_cons]
def Ze4 (l:List Ent):List (List Ent):=(List.range (Ze3 l)).map (ZeK l)
def blkB (c:List Ent):List UInt8:=Zxu (Zdm [] c)
theorem ZgO (l:List Ent):encD l=Zd8 l.length++(Ze4 l).flatMap blkB:=by
 unfold encD Ze1 Ze4
 rw [List.drop_zero,List.flatMap_map]
 rfl
theorem Ze8:Ze4 []=[]:=rfl
theorem Ze6 {c m:List Ent} (h0:0<c.length) (h:c.length=16∨(c.length≤16∧m=[])):Ze4 (c++m)=c::Ze4 m:=by
 have hn:Ze3 (c++m)=Ze3 m+1:=by
  unfold Ze3
  rw [List.length_append]
  rcases h with h | ⟨h,rfl⟩
  ·omega
  ·simp only [List.length_nil];omega
 unfold Ze4
 rw [hn,List.range_succ_eq_map,List.map_cons,List.map_map]
 have h1:ZeK (c++m) 0=c:=by
  unfold ZeK
  rw [Nat.mul_zero,List.drop_zero]
  rcases h with h | ⟨h,rfl⟩
  ·rw [← h,List.take_left]
  ·rw [List.append_nil,List.take_of_length_le h]
 rw [h1]
 congr 1
 apply List.map_congr_left
 intro j hj
 show ZeK (c++m) (j+1)=ZeK m j
 unfold ZeK
 rcases h with h | ⟨h,rfl⟩
 ·rw [show 16*(j+1)=16+16*j by omega,← h,← List.drop_drop,List.drop_left]
 ·simp [Ze3] at hj
theorem Ze7 (l:List Ent):(Ze4 l).length=Ze3 l:=by simp [Ze4]
theorem Ze5 {l:List Ent} {j:Nat} (h:j<(Ze4 l).length):(Ze4 l)[j]=ZeK l j:=by simp [Ze4]
theorem ZeX (l:List Ent) (j:Nat):(ZeK l j).length=min 16 (l.length - 16*j):=by unfold ZeK;rw [List.length_take,List.length_drop]
theorem ZeP {l:List Ent} {j k:Nat} (h:k<(ZeK l j).length):(ZeK l j)[k]=l[16*j+k]'(by rw [ZeX] at h;omega):=by
 simp [ZeK]
def Znc (t:List UInt8) (l:List Ent):List UInt8:=(l.getLast?.map (·.1)).getD t
def ZcZ (n at_:Nat) (last:List UInt8) (e:List Ent×List UInt8×Bool):Bool := !e.2.2&&(decide (e.2.1=[])&&(decide (e.1.length=min 16 (n - at_))&&Ztt last e.1))
def Ze9:Nat→Nat→Nat→List UInt8→List (List Ent)→List UInt8→Bool→Option (List (List Ent)×List UInt8×Bool)
 | 0,_,_,_,acc,l,o=>some (acc,l,o)
 | f+1,n,at_,last,acc,l,o =>
   if at_<n then
    if ZcZ n at_ last (ZhI 16 [] [] (Zyg l.length l o).1 false)=true then
     Ze9 f n (at_+16) (Znc last (ZhI 16 [] [] (Zyg l.length l o).1 false).1) (acc++[(ZhI 16 [] [] (Zyg l.length l o).1 false).1]) (Zyg l.length l o).2.1 (Zyg l.length l o).2.2
    else none
   else some (acc,l,o)
theorem Zc0 {n at_:Nat} {last:List UInt8} {e:List Ent×List UInt8×Bool}:ZcZ n at_ last e=true↔e.2.2=false∧e.2.1=[]∧e.1.length=min 16 (n - at_)∧Ztt last e.1=true:=by
 unfold ZcZ
 rw [Bool.and_eq_true,Bool.and_eq_true,Bool.and_eq_true,decide_eq_true_eq,decide_eq_true_eq]
 simp
theorem Zfe:∀ (f:Nat) (m:List Ent) (n at_:Nat) (last:List UInt8) (acc:List (List Ent)) (o:Bool),m.length=n - at_→n≤at_+16*f→(∀ x∈m,okW x)→Ztt last m=true →
  Ze9 f n at_ last acc ((Ze4 m).flatMap blkB) o=some (acc++Ze4 m,[],o)
 | 0,m,n,at_,last,acc,o,hl,hf,hw,hr=>by
   have:m=[]:=List.eq_nil_of_length_eq_zero (by omega)
   subst this
   simp [Ze9,Ze8]
 | f+1,m,n,at_,last,acc,o,hl,hf,hw,hr=>by
   rw [Ze9]
   by_cases h:at_<n
   ·rw [if_pos h]
    have hm:m.take 16++m.drop 16=m:=List.take_append_drop _ _
    have hcl:(m.take 16).length=min 16 (n - at_):=by rw [List.length_take,hl]
    have hcw:∀ x∈m.take 16,okW x:=fun x hx=>hw x (List.mem_of_mem_take hx)
    have hdw:∀ x∈m.drop 16,okW x:=fun x hx=>hw x (List.mem_of_mem_drop hx)
    have hsp:Ze4 m=m.take 16::Ze4 (m.drop 16):=by
     conv=>lhs;rw [← hm]
     refine Ze6 (by omega) ?_
     by_cases h16:16≤m.length
     ·left;rw [List.length_take];omega
     ·right;exact ⟨by omega,List.drop_of_length_le (by omega)⟩
    rw [← hm,Ztv,Bool.and_eq_true] at hr
    have hbl:(Zdm [] (m.take 16)).length≤1840+100000:=by
     by_cases hall:∀ x∈m.take 16,okX x=true
     ·have:=Zdn (m.take 16) [] hall
      rw [hcl] at this
      omega
     ·exfalso
      exact hall ((Zcu ((Zcx _ _).2 ⟨hcw,hr.1⟩)))
    rw [hsp,List.flatMap_cons]
    have ht:Zyg (((blkB (m.take 16)++(Ze4 (m.drop 16)).flatMap blkB).length:Nat):Int) (blkB (m.take 16)++(Ze4 (m.drop 16)).flatMap blkB) o=(Zdm [] (m.take 16),(Ze4 (m.drop 16)).flatMap blkB,o):=by
     unfold blkB
     refine Zym ?_ (by omega) _ _
     unfold Zxu
     simp only [List.length_append]
     omega
    have he:=ZhQ (m.take 16) 16 [] [] false hcw (by simp) (by omega)
    rw [ht]
    dsimp only
    rw [he,if_pos (Zc0.2 ⟨rfl,rfl,by simpa using hcl,by simpa using hr.1⟩)]
    dsimp only
    rw [List.nil_append]
    have:=Zfe f (m.drop 16) n (at_+16) (Znc last (m.take 16)) (acc++[m.take 16]) o (by rw [List.length_drop,hl];omega) (by omega) hdw hr.2
    rw [this]
    simp
   ·rw [if_neg h]
    have:m=[]:=List.eq_nil_of_length_eq_zero (by omega)
    subst this
    simp [Ze8]
theorem Zfa:∀ (f n at_:Nat) (last:List UInt8) (acc acc':List (List Ent)) (l:List UInt8) (o:Bool),n≤at_+16*f→Ze9 f n at_ last acc l o=some (acc',[],false) →
  o=false∧∃ m,acc'=acc++Ze4 m∧m.length=n - at_∧(Ze4 m).flatMap blkB=l∧(∀ x∈m,okW x)∧Ztt last m=true
 | 0,n,at_,last,acc,acc',l,o,hf,h=>by
   rw [Ze9] at h
   simp only [Option.some.injEq,Prod.mk.injEq] at h
   obtain ⟨rfl,rfl,rfl⟩:=h
   exact ⟨rfl,[],by simp [Ze8],by simp;omega,by simp [Ze8],by simp,rfl⟩
 | f+1,n,at_,last,acc,acc',l,o,hf,h=>by
   rw [Ze9] at h
   by_cases hlt:at_<n
   ·rw [if_pos hlt] at h
    by_cases hb:ZcZ n at_ last (ZhI 16 [] [] (Zyg l.length l o).1 false)=true
    ·rw [if_pos hb] at h
     obtain ⟨b1,b2,b3,b4⟩:=Zc0.1 hb
     obtain ⟨_,c,c1,c2,c3,c4⟩:=ZhL 16 [] [] (Zyg l.length l o).1 false (by simp) b2 b1
     rw [List.nil_append] at c1
     rw [c1] at h b3 b4
     obtain ⟨k1,m,k2,k3,k4,k5,k6⟩:=Zfa f n (at_+16) _ _ _ _ _ (by omega) h
     obtain ⟨t1,t2⟩:=Zyh k1
     have hsp:Ze4 (c++m)=c::Ze4 m:=by
      refine Ze6 (by omega) ?_
      by_cases h16:16≤n - at_
      ·left;omega
      ·right;exact ⟨by omega,List.eq_nil_of_length_eq_zero (by omega)⟩
     refine ⟨t1,c++m,?_,?_,?_,?_,?_⟩
     ·rw [k2,hsp];simp
     ·rw [List.length_append,b3,k3];omega
     ·rw [hsp,List.flatMap_cons,k4]
      unfold blkB
      rw [c2,t2]
     ·intro x hx
      rcases List.mem_append.1 hx with hx | hx
      ·exact c4 x hx
      ·exact k5 x hx
     ·rw [Ztv,b4];exact k6
    ·rw [if_neg hb] at h;cases h
   ·rw [if_neg hlt] at h
    simp only [Option.some.injEq,Prod.mk.injEq] at h
    obtain ⟨rfl,rfl,rfl⟩:=h
    exact ⟨rfl,[],by simp [Ze8],by simp;omega,by simp [Ze8],by simp,rfl⟩
def ZpM (b:List UInt8):Option (Nat×List (List Ent)) :=
 match Ze9 16384 (Zo4 262144 b false).1 0 [] [] (Zo4 262144 b false).2.1 (Zo4 262144 b false).2.2 with
 | none=>none
 | some (cs,l,o)=>if o=true∨l≠[] then none else some ((Zo4 262144 b false).1,cs)
theorem ZpS {l:List Ent} (h:areD l=true):ZpM (encD l)=some (l.length,Ze4 l):=by
 unfold areD at h
 rw [Bool.and_eq_true,decide_eq_true_eq,Zcw] at h
 unfold ZpM
 rw [ZgO,Zph h.1 (by omega)]
 dsimp only
 rw [Zfe 16384 l l.length 0 [] [] false (by omega) (by omega) h.2.1 h.2.2]
 simp
theorem ZpP {b:List UInt8} {n:Nat} {cs:List (List Ent)} (h:ZpM b=some (n,cs)):∃ l,areD l=true∧encD l=b∧n=l.length∧cs=Ze4 l:=by
 have hle:=Zpd 262144 b false
 have hbk:=@Zpc 262144 b false
 unfold ZpM at h
 generalize Zo4 262144 b false=s at *
 cases hc:Ze9 16384 s.1 0 [] [] s.2.1 s.2.2 with
 | none=>rw [hc] at h;cases h
 | some p =>
   obtain ⟨cs',l',o'⟩:=p
   rw [hc] at h
   dsimp only at h
   by_cases hx:o'=true∨l'≠[]
   ·rw [if_pos hx] at h;cases h
   ·rw [if_neg hx] at h
    have ho:o'=false:=by simpa using fun e=>hx (.inl e)
    have hl:l'=[]:=Classical.byContradiction fun e=>hx (.inr e)
    subst ho hl
    obtain ⟨k1,m,k2,k3,k4,k5,k6⟩:=Zfa 16384 s.1 0 [] [] cs' s.2.1 s.2.2 (by omega) hc
    obtain ⟨_,e⟩:=hbk k1
    simp only [Option.some.injEq,Prod.mk.injEq] at h
    have hml:m.length=s.1:=by omega
    refine ⟨m,?_,?_,by rw [← h.1,hml],by rw [← h.2,k2];rfl⟩
    ·unfold areD
     rw [Bool.and_eq_true,decide_eq_true_eq,Zcw]
     exact ⟨by omega,k5,k6⟩
    ·rw [ZgO,hml,k4]
     exact e
theorem ZpQ (b:List UInt8):ZpM b=(decD b).map fun l=>(l.length,Ze4 l):=by
 cases h:ZpM b with
 | some p =>
   obtain ⟨n,cs⟩:=p
   obtain ⟨l,h1,h2,h3,h4⟩:=ZpP h
   rw [Zf3.2 ⟨h1,h2⟩,h3,h4]
   rfl
 | none =>
   cases hd:decD b with
   | none=>rfl
   | some l =>
     obtain ⟨h1,h2⟩:=Zf2 hd
     rw [← h2,ZpS h1] at h
     cases h
end Go.Proofs.YtdijhifdjbnkfaaGreat.DT
namespace Go.Proofs.YtdijhifdjbnkfaaGreat.EV
open Go Go.RowKit MM EM VM GB
open VP
theorem Zeb (n:Nat):Zd8 n≠[]:=by
 intro h
 have:=(Zea n).1
 rw [h] at this
 simp at this
theorem Zme (z:Int):intL z≠[]:=Zeb _
theorem Zxw (s:List UInt8):Zxu s≠[]:=by
 intro h
 have:=(Zxv s).2
 rw [h] at this
 simp at this
theorem Zmd (z:Int):(intL z).length≤10:=(Zea _).2
theorem ZdN (w:World):BRow w (.slice none 0 0) []:=BIn.nil_ _ w
theorem ZrT (t:List UInt8) (ht:t.length≤4096) (W:World):Calls Tryz.prog 199 #[.slice none 0 0,.string ⟨t.toArray⟩] W (Zbg W.heap.size (Zxu t) W):=by
 have h:=Zsb (.slice none 0 0) [] ⟨t.toArray⟩ W (ZdN _) (by rw [ZwF];simp;omega)
 rw [List.nil_append,ZwD] at h
 exact h
theorem ZkU {α:Type} {C:Codec α} {w w':World} {v v' u:Value} {xs:List α} (h:ROn C (fun b=>v.ownBlock≠some b) w u xs) (hg:ZaL w w' v v'):ROn C (fun b=>v.ownBlock≠some b) w' u xs:=h.keep hg.kep fun _ _ h=>h
theorem fits (m:Nat) (L:List UInt8) (fs:List Fld) (z:Int) (h16:fs.length≤16) (hx:∀ f∈fs,f.1.length≤4096∧f.2.length≤4096) (hl:L.length≤1000000000):∀ k,(L++intL z++Zd8 m++ZdZ (fs.take k)).length≤1001000000:=fun k=>by
 have h1:=Zmd z
 have h2:=(Zea m).2
 have h3:=Zd2 (fs.take k)
 have h4:ZvV (fs.take k)≤8192*(fs.take k).length:=by
  have:∀ gs:List Fld,(∀ f∈gs,f.1.length≤4096∧f.2.length≤4096)→ZvV gs≤8192*gs.length:=by
   intro gs
   induction gs with
   | nil=>simp [ZvV]
   | cons f r ih =>
     intro h
     have h1:=h f (by simp)
     have h2:=ih fun g hg=>h g (by simp [hg])
     have e:ZvV (f::r)=f.1.length+f.2.length+ZvV r:=by simp [ZvV]
     rw [e,List.length_cons]
     omega
  exact this _ fun f hf=>hx f (List.mem_of_mem_take hf)
 have h5:(fs.take k).length≤fs.length:=List.length_take_le' _ _
 simp only [List.length_append]
 omega
theorem Zcm (v:Value) (l:List UInt8) (z:Int) (u:Value) (fs:List Fld) (w:World) (hown:OwnB 0 w v l) (hr:ROn fldC (fun b=>v.ownBlock≠some b) w u fs) (h0 : -9223372036854775808≤z) (h1:z≤9223372036854775807) (h16:fs.length≤16) (hx:∀ f∈fs,f.1.length≤4096∧f.2.length≤4096) (hl:l.length≤1000000000) :
  Calls Tryz.prog 244 #[v,.agg #[.int .i64 z,u]] w (AppL (l++ZdV (z,fs)) v w):=by
 obtain ⟨p,cap,rfl,hlc,hcm,_⟩:=hr.shape
 unfold maxLen at hcm
 have hbx:=ZdG w z (.slice p fs.length cap)
 have HP:=Lib.hid (Zsa (.slice none 0 0) [] z (ZhU w z (.slice p fs.length cap)) h0 h1 (ZdN _) (by simp))
 have HLN:=Lib.hid (fits fs.length l fs z h16 hx hl)
 have HX:=Lib.hid hx
 have HO:=Lib.hid hown
 have HR:=Lib.hid hr
 have HOL:=Lib.hid (Zqh hown)
 have HBX:=Lib.hid hbx
 have HEND:Hid (l++intL z++Zd8 fs.length++ZdZ (fs.take fs.length)=l++ZdV (z,fs)):=Lib.hid (by rw [List.take_length];unfold ZdV;simp)
 clear hown hr hx hl hbx
 go_enter Tryz.func244,Tryz.ntmps244
 go_wp2_with fail
 refine HP.out.mono ?_
 rintro e w1 ⟨v1,rfl,ho1,hb1⟩
 rw [List.nil_append] at ho1
 have hbw1:Below w.heap.size w w1:=HBX.out.trans (hb1.mono HBX.out.size)
 have hsz1:w.heap.size<w1.heap.size:=by have:=hb1.size;rw [ZdK] at this;omega
 have HOV1:=Lib.hid (HO.out.keep hbw1)
 have HO1:=Lib.hid ho1
 have HC1:=Lib.hid (ZdH hb1)
 have HB1:=Lib.hid hbw1
 have HIL:=Lib.hid (Zmd z)
 have hvo:v.ownBlock≠some w.heap.size:=fun e=>absurd (HOL.out _ e) (Nat.lt_irrefl _)
 clear ho1 hb1 hbw1 HP
 go_wp2_with (at_builtin;go_loud (refine Zzp rfl _ _ rfl v l rfl HOV1.out _ (intL z) rfl HO1.out.brow (Zme z) (by have:=HLN.out 0;simp only [List.length_append] at this;omega) ?_;intro v2 w2 ho2 hg2;have d1:=(hg2.kep.cell hsz1 hvo 1).trans HC1.out.2.1;have hsz2:w.heap.size<w2.heap.size:=Nat.lt_of_lt_of_le hsz1 hg2.1.size;have hvo2:v2.ownBlock≠some w.heap.size:=fun e=>(hg2.2 _ e).elim hvo fun h=>absurd hsz1 (Nat.not_lt.2 h);have HO2:=Lib.hid ho2;have HG2:=Lib.hid (ZaL.of_below HB1.out hg2 HOL.out);clear ho2 hg2))
 have HQ:=Lib.hid (Zr2 (.slice none 0 0) [] fs.length w2 (by omega) (ZdN _) (by simp))
 refine HQ.out.mono ?_
 rintro e w3 ⟨v3,rfl,ho3,hb3⟩
 rw [List.nil_append] at ho3
 have HO3:=Lib.hid ho3
 have HOV3:=Lib.hid (HO2.out.keep hb3)
 have e1:=(hb3.cell (p:=⟨w.heap.size,1,none⟩) hsz2).trans d1
 have HG3:=Lib.hid (ZaL.below HG2.out hb3)
 have hsz3:w.heap.size<w3.heap.size:=Nat.lt_of_lt_of_le hsz2 hb3.size
 clear ho3 hb3 HQ d1
 go_wp2_with (at_builtin;go_loud (refine Zzp rfl _ _ rfl v2 (l++intL z) rfl HOV3.out _ (Zd8 fs.length) rfl HO3.out.brow (Zeb _) (by have:=HLN.out 0;simp only [List.length_append] at this;simp only [List.length_append];omega) ?_;intro v4 w4 ho4 hg4;have d1:=(hg4.kep.cell hsz3 hvo2 1).trans e1;have HO4:Hid (OwnB 0 w4 v4 (l++intL z++Zd8 fs.length++ZdZ (fs.take 0))):=Lib.hid (by rw [show l++intL z++Zd8 fs.length++ZdZ (fs.take 0)=l++intL z++Zd8 fs.length by simp [EM.ZdZ]];exact ho4);have HG4:=Lib.hid (HG3.out.trans hg4);clear ho4 hg4))
 go_loopw [0,22] (fun bv iv wr=>∃ k:Nat,k≤fs.length∧iv=.int .i64 k∧Hid (OwnB 0 wr bv (l++intL z++Zd8 fs.length++ZdZ (fs.take k)))∧Hid (ZaL w wr v bv)) (fun _ iv _=>fs.length - (intOf iv).toNat)
 case atStart=>exact ⟨0,by omega,rfl,HO4,HG4⟩
 case round =>
  obtain ⟨k,hk,rfl,HOk,HGk⟩:=hrel
  clear HO4 HG4 HOV3 HO3 HG3 HO2 HG2 HOV1 HO1 d1 e1
  by_cases hlt:k<fs.length
  ·have q1:decide ((k:Int)<(fs.length:Int))=true:=by rw [decide_eq_true_eq];omega
   have q2:decide (k<fs.length)=true:=by rw [decide_eq_true_eq];omega
   have q3:(k:Int)<(fs.length:Int):=by omega
   obtain ⟨b,off,rfl,hbl,hbS,c1,c2⟩:=Zi7 (ZkU HR.out HGk.out) hlt
   have hxk:=HX.out fs[k] (List.getElem_mem hlt)
   have hnx:=Zd5 hlt
   have hll:=HLN.out (k+1)
   rw [hnx] at hll
   generalize fs[k].1=nm at *
   generalize fs[k].2=tx at *
   have hn2:l++intL z++Zd8 fs.length++ZdZ (fs.take (k+1))=l++intL z++Zd8 fs.length++ZdZ (fs.take k)++Zxu nm++Zxu tx:=by rw [hnx];simp
   obtain ⟨L,hL⟩:∃ L,l++intL z++Zd8 fs.length++ZdZ (fs.take k)=L:=⟨_,rfl⟩
   have hlen:(L++Zxu nm++Zxu tx).length≤1001000000:=by rw [← hL];rw [← List.append_assoc] at hll;rw [← List.append_assoc] at hll;exact hll
   rw [hL] at hn2
   have ho:=HOk.out
   rw [hL] at ho
   have HOL0:=Lib.hid ho
   have HN2:=Lib.hid hn2
   have HT1:=Lib.hid (fun W=>ZrT nm hxk.1 W)
   have HT2:=Lib.hid (fun W=>ZrT tx hxk.2 W)
   have HLT:=Lib.hid hlt
   have HUL:=Lib.hid (Zqh ho)
   clear hnx hll hL ho hn2 HOk hlt
   go_wp2_with fail
   have hba:Below wr.heap.size wr (wr.alloc (.cells #[.string ⟨nm.toArray⟩,.string ⟨tx.toArray⟩] 123)):=(Below.refl _ _).alloc (Nat.le_refl _) _
   have hnw:=(ZoE wr (.string ⟨nm.toArray⟩) (.string ⟨tx.toArray⟩) 123).2
   refine (HT1.out _).mono ?_
   rintro e w5 ⟨v5,rfl,ho5,hb5⟩
   have hb15:Below wr.heap.size wr w5:=hba.trans (hb5.mono hba.size)
   have hszr5:wr.heap.size<w5.heap.size:=by have:=hb5.size;rw [World.size_alloc] at this;omega
   have k1:=(hb5.cell (p:=⟨wr.heap.size,1,none⟩) (by rw [World.size_alloc];exact Nat.lt_succ_self _)).trans hnw
   have HO5:=Lib.hid ho5
   have HV5:=Lib.hid (HOL0.out.keep hb15)
   have HG5:=Lib.hid (ZaL.below HGk.out hb15)
   have hvr:u0.ownBlock≠some wr.heap.size:=fun e=>absurd (HUL.out _ e) (Nat.lt_irrefl _)
   clear hba hnw ho5 hb5 hb15 HT1 c1 c2 HGk
   go_wp2_with (at_builtin;go_loud (refine Zzp rfl _ _ rfl u0 L rfl HV5.out _ (Zxu nm) rfl HO5.out.brow (Zxw _) (by simp only [List.length_append] at hlen;omega) ?_;intro v6 w6 ho6 hg6;have k2:=(hg6.kep.cell hszr5 hvr 1).trans k1;have HO6:=Lib.hid ho6;have HG6:=Lib.hid (HG5.out.trans hg6);clear ho6 hg6))
   refine (HT2.out _).mono ?_
   rintro e w7 ⟨v7,rfl,ho7,hb7⟩
   have HO7:=Lib.hid ho7
   have HV7:=Lib.hid (HO6.out.keep hb7)
   have HG7:=Lib.hid (ZaL.below HG6.out hb7)
   clear ho7 hb7 HT2 k1 k2 HO6 HG6 HO5 HV5 HG5
   go_wp2_with (at_builtin;go_loud (refine Zzp rfl _ _ rfl v6 (L++Zxu nm) rfl HV7.out _ (Zxu tx) rfl HO7.out.brow (Zxw _) (by simp only [List.length_append] at hlen;simp only [List.length_append];omega) ?_;intro v8 w8 ho8 hg8;rw [← HN2.out] at ho8;have HO8:=Lib.hid ho8;have HG8:=Lib.hid (HG7.out.trans hg8);clear ho8 hg8))
   have hlt:=HLT.out
   go_roundw
   case rel=>exact ⟨k+1,by omega,by go_num,HO8,HG8⟩
   case measure=>simp [intOf];omega
  ·obtain rfl:k=fs.length:=by omega
   have q1:decide ((fs.length:Int)<(fs.length:Int))=false:=by simp
   have q2:decide (fs.length<fs.length)=false:=by simp
   have ho:=HOk.out
   rw [HEND.out] at ho
   have HO9:=Lib.hid ho
   clear HOk ho hlt
   go_wp2_with fail
   go_ret
   exact ⟨_,rfl,HO9.out,HGk.out⟩
end Go.Proofs.YtdijhifdjbnkfaaGreat.EV
namespace Go.Proofs.YtdijhifdjbnkfaaGreat.EV
open Go Go.RowKit MM EM VM
def Zo4 (m:Nat) (l:List UInt8) (o:Bool):Nat×List UInt8×Bool:=if (getL l).2.2=0∧(getL l).1≤m then ((getL l).1,VG.Zs0 l,o) else (0,[],true)
def ZxE (l:List UInt8) (o:Bool):Int×List UInt8×Bool:=((getI l).1,VG.Zs0 l,o||(getI l).2.2 != 0)
def Zyg (m:Int) (l:List UInt8) (o:Bool):List UInt8×List UInt8×Bool:=((getT l m).1,VG.Zs7 l m,o||(getT l m).2.2 != 0)
def Rd (B:Nat) (w:World) (g:Nat) (l:List UInt8) (o:Bool):Prop:=∃ v,w.heap[g]? = some (.cells #[v,.bool o] 326 (0,0))∧BIn B w v l
theorem Rd.lt {B:Nat} {w:World} {g:Nat} {l:List UInt8} {o:Bool} (h:Rd B w g l o):g<w.heap.size:=by obtain ⟨v,h,_⟩:=h;exact (Array.getElem?_eq_some_iff.1 h).1
theorem Rd.keep {S:Nat→Prop} {B:Nat} {w w':World} {g:Nat} {l:List UInt8} {o:Bool} (h:Rd B w g l o) (hk:Kep S w w') (hg:S g) (hB:∀ k,k<B→S k) (hBs:B≤w.heap.size):Rd B w' g l o:=by
 have hl:=h.lt
 obtain ⟨v,h,hv⟩:=h
 exact ⟨v,(hk.block g hl hg).trans h,hv.below (hk.below hBs hB)⟩
theorem ZsL {B:Nat} {w w1:World} {g:Nat} {l m:List UInt8} {o:Bool} {v:Value} (h:Rd B w g l o) (hb:Below w.heap.size w w1) (hB:B≤g) (hv:BIn B w1 v m):Rd B (w1.setCell ⟨g,0,none⟩ v) g m o:=by
 obtain ⟨v0,h,_⟩:=h
 have hlt:=(Array.getElem?_eq_some_iff.1 h).1
 have h1:=heap_setCell_same w1 g 0 _ _ v ((hb.block g hlt).trans h)
 exact ⟨v,h1,hv.below ((Below.refl B w1).setCell (p:=⟨g,0,none⟩) hB v)⟩
theorem ZsN {B:Nat} {w w1:World} {g:Nat} {l m:List UInt8} {o:Bool} {v:Value} (h:Rd B w g l o) (hb:Below w.heap.size w w1) (hB:B≤g) (hv:BIn B w1 v m):Rd B ((w1.setCell ⟨g,0,none⟩ v).setCell ⟨g,1,none⟩ (.bool true)) g m true:=by
 obtain ⟨v0,h,_⟩:=h
 have hlt:=(Array.getElem?_eq_some_iff.1 h).1
 have h1:=heap_setCell_same w1 g 0 _ _ v ((hb.block g hlt).trans h)
 have h2:=heap_setCell_same _ g 1 _ _ (.bool true) h1
 exact ⟨v,h2,(hv.below ((Below.refl B w1).setCell (p:=⟨g,0,none⟩) hB v)).below ((Below.refl B _).setCell (p:=⟨g,1,none⟩) hB (.bool true))⟩
def Took (B g:Nat) (x:Value) (l:List UInt8) (o:Bool) (w:World) (e:Ending) (w':World):Prop:=e=.returned x∧Rd B w' g l o∧Kep (fun b=>b≠g) w w'
theorem ZkQ (B g:Nat) (l m:List UInt8) (o:Bool) (v:Value) (er:Int) (w:World) (h:Rd B w g l o) (hB:B≤g) (hv:BIn B w v m) :
  Calls Tryz.prog 283 #[.pointer (some ⟨g,0,none⟩),v,.int .i64 er] w (Took B g (.tuple #[]) m (o||er != 0) w):=by
 have HR:=Lib.hid h
 have hlt:=h.lt
 obtain ⟨v0,hc,_⟩:=h
 have HV:=Lib.hid hv
 have f0:=cell_of_row w g 0 _ _ _ hc
 have f1:=cell_of_row w g 1 _ _ _ hc
 have f2:=frozen_of_row w g 0 _ _ hc
 have f3:=frozen_of_row w g 1 _ _ hc
 obtain ⟨p1,c1,rfl,_⟩:=hv.shape
 by_cases h0:er=0
 ·subst h0
  have t1:(o||((0:Int) != 0))=o:=by simp
  rw [t1]
  have HQ:=Lib.hid (show Took B g (.tuple #[]) m o w (.returned (.tuple #[])) (w.setCell ⟨g,0,none⟩ (.slice p1 m.length c1)) from ⟨rfl,ZsL HR.out (Below.refl _ _) hB HV.out,ZmZ (by simp) _⟩)
  clear hv HV HR hc
  go_enter Tryz.func283,Tryz.ntmps283
  go_wp2_with fail
  refine bodyPost_end (results_none rfl _ _ _) rfl ?_
  exact HQ.out
 ·have t0:(er != 0)=true:=by rw [bne_iff_ne];exact h0
  have t1:(o||(er != 0))=true:=by rw [t0];simp
  rw [t1]
  have HQ:=Lib.hid (show Took B g (.tuple #[]) m true w (.returned (.tuple #[])) ((w.setCell ⟨g,0,none⟩ (.slice p1 m.length c1)).setCell ⟨g,1,none⟩ (.bool true)) from ⟨rfl,ZsN HR.out (Below.refl _ _) hB HV.out,(ZmZ (by simp) _).trans (ZmZ (by simp) _)⟩)
  clear hv HV HR hc
  go_enter Tryz.func283,Tryz.ntmps283
  go_wp2_with fail
  refine bodyPost_end (results_none rfl _ _ _) rfl ?_
  exact HQ.out
theorem ZxH (B g:Nat) (l:List UInt8) (o:Bool) (w:World) (h:Rd B w g l o) (hB:B≤g) :
  Calls Tryz.prog 276 #[.pointer (some ⟨g,0,none⟩)] w (Took B g (.int .i64 (ZxE l o).1) (ZxE l o).2.1 (ZxE l o).2.2 w):=by
 have HR:=Lib.hid h
 have hlt:=h.lt
 obtain ⟨v,hc,hv⟩:=h
 have f0:w.cell? ⟨g,0,none⟩=some v:=by rw [cell_of_row w g 0 _ _ _ hc];rfl
 have HG:=Lib.hid (VG.ZkK B v l w hv (Nat.le_of_lt (Nat.lt_of_le_of_lt hB hlt)))
 have HGO:=Lib.hid (fun m v er w1 (h1:Rd B w1 g l o) (h2:BIn B w1 v m)=>ZkQ B g l m o v er w1 h1 hB h2)
 unfold ZxE
 generalize (getI l).1=n at *
 generalize (getI l).2.2=er at *
 generalize VG.Zs0 l=R at *
 have HBS:=Lib.hid (show B≤w.heap.size by omega)
 clear hv hc hlt
 go_enter Tryz.func276,Tryz.ntmps276
 go_wp2_with fail
 refine HG.out.mono ?_
 rintro e w1 ⟨v1,rfl,hv1,hb1⟩
 have hr1:=HR.out.keep (S:=fun _=>True) (ZmT _ hb1) trivial (fun _ _=>trivial) HBS.out
 have HQ:=Lib.hid (HGO.out R v1 er w1 hr1 hv1)
 have HB1:=Lib.hid hb1
 clear hv1 hb1 hr1 HG HGO
 go_wp2_with fail
 refine HQ.out.mono ?_
 rintro e w2 ⟨rfl,h2,k2⟩
 have H2:=Lib.hid h2
 have K2:=Lib.hid k2
 clear h2 k2 HQ
 go_wp2_with fail
 go_ret
 exact ⟨rfl,H2.out,(ZmT _ HB1.out).trans K2.out⟩
theorem Zxx (B g:Nat) (most:Int) (l:List UInt8) (o:Bool) (w:World) (h0:0≤most) (h1:most≤9223372036854775807) (h:Rd B w g l o) (hB:B≤g) :
  Calls Tryz.prog 278 #[.pointer (some ⟨g,0,none⟩),.int .i64 most] w (Took B g (.string ⟨(Zyg most l o).1.toArray⟩) (Zyg most l o).2.1 (Zyg most l o).2.2 w):=by
 have HR:=Lib.hid h
 have hlt:=h.lt
 obtain ⟨v,hc,hv⟩:=h
 have f0:w.cell? ⟨g,0,none⟩=some v:=by rw [cell_of_row w g 0 _ _ _ hc];rfl
 have HG:=Lib.hid (VG.ZkL B v l most w (by omega) h1 hv (Nat.le_of_lt (Nat.lt_of_le_of_lt hB hlt)))
 have HGO:=Lib.hid (fun m v er w1 (h1:Rd B w1 g l o) (h2:BIn B w1 v m)=>ZkQ B g l m o v er w1 h1 hB h2)
 unfold Zyg
 dsimp only
 generalize (getT l most).1=n at *
 generalize (getT l most).2.2=er at *
 generalize VG.Zs7 l most=R at *
 have HBS:=Lib.hid (show B≤w.heap.size by omega)
 clear hv hc hlt
 go_enter Tryz.func278,Tryz.ntmps278
 go_wp2_with fail
 refine HG.out.mono ?_
 rintro e w1 ⟨v1,rfl,hv1,hb1⟩
 have hr1:=HR.out.keep (S:=fun _=>True) (ZmT _ hb1) trivial (fun _ _=>trivial) HBS.out
 have HQ:=Lib.hid (HGO.out R v1 er w1 hr1 hv1)
 have HB1:=Lib.hid hb1
 clear hv1 hb1 hr1 HG HGO
 go_wp2_with fail
 refine HQ.out.mono ?_
 rintro e w2 ⟨rfl,h2,k2⟩
 have H2:=Lib.hid h2
 have K2:=Lib.hid k2
 clear h2 k2 HQ
 go_wp2_with fail
 go_ret
 exact ⟨rfl,H2.out,(ZmT _ HB1.out).trans K2.out⟩
theorem Zpj (B g:Nat) (m:Nat) (l:List UInt8) (o:Bool) (w:World) (hm:m≤1099511627776) (h:Rd B w g l o) (hB:B≤g) :
  Calls Tryz.prog 277 #[.pointer (some ⟨g,0,none⟩),.int .i64 m] w (Took B g (.int .i64 (Zo4 m l o).1) (Zo4 m l o).2.1 (Zo4 m l o).2.2 w):=by
 have HR:=Lib.hid h
 have hlt:=h.lt
 obtain ⟨v,hc,hv⟩:=h
 have f0:w.cell? ⟨g,0,none⟩=some v:=by rw [cell_of_row w g 0 _ _ _ hc];rfl
 have HG:=Lib.hid (VG.ZkF B v l w hv (Nat.le_of_lt (Nat.lt_of_le_of_lt hB hlt)))
 have HGO:=Lib.hid (fun m v er w1 (h1:Rd B w1 g l o) (h2:BIn B w1 v m)=>ZkQ B g l m o v er w1 h1 hB h2)
 have hb:=Zkh l
 have herr:(getL l).2.2≠0→(getL l).1=0∧VG.Zs0 l=[]:=fun he=>by
  refine ⟨?_,by unfold VG.Zs0;rw [if_neg he]⟩
  rcases hb.2.2.1 with e | e | e
  ·exact absurd e he
  ·rw [e]
  ·rw [e]
 have hn:=hb.1
 unfold Zo4
 generalize (getL l).1=n at *
 generalize (getL l).2.2=er at *
 generalize VG.Zs0 l=R at *
 have HBS:=Lib.hid (show B≤w.heap.size by omega)
 clear hv hc hlt hb
 by_cases hmn:n≤m
 ·have hst:(if er=0∧n≤m then (n,R,o) else (0,[],true))=(n,R,o||er != 0):=by
   by_cases h0:er=0
   ·subst h0
    rw [if_pos ⟨rfl,hmn⟩];simp
   ·rw [if_neg (fun h=>h0 h.1),(herr h0).1,(herr h0).2]
    have:(er != 0)=true:=by rw [bne_iff_ne];exact h0
    rw [this];simp
  rw [hst]
  have t1:decide ((n:Int)>(m:Int))=false:=decide_eq_false (by omega)
  have t2:IntKind.u64.wrap (m:Int)=(m:Int):=by rw [IntKind.wrap_u64];omega
  have t3:IntKind.i64.wrap (n:Int)=(n:Int):=by rw [IntKind.wrap_i64];omega
  dsimp only
  clear hst herr
  go_enter Tryz.func277,Tryz.ntmps277
  go_wp2_with fail
  refine HG.out.mono ?_
  rintro e w1 ⟨v1,rfl,hv1,hb1⟩
  have hr1:=HR.out.keep (S:=fun _=>True) (ZmT _ hb1) trivial (fun _ _=>trivial) HBS.out
  have HQ:=Lib.hid (HGO.out R v1 er w1 hr1 hv1)
  have HB1:=Lib.hid hb1
  clear hv1 hb1 hr1 HG HGO
  go_wp2_with fail
  refine HQ.out.mono ?_
  rintro e w2 ⟨rfl,h2,k2⟩
  have H2:=Lib.hid h2
  have K2:=Lib.hid k2
  clear h2 k2 HQ
  go_wp2_with fail
  go_ret
  exact ⟨rfl,H2.out,(ZmT _ HB1.out).trans K2.out⟩
 ·have hst:(if er=0∧n≤m then (n,R,o) else (0,[],true))=(0,[],true):=by rw [if_neg (fun h=>hmn h.2)]
  rw [hst]
  have t1:decide ((n:Int)>(m:Int))=true:=decide_eq_true (by omega)
  have t2:IntKind.u64.wrap (m:Int)=(m:Int):=by rw [IntKind.wrap_u64];omega
  dsimp only
  clear hst herr
  go_enter Tryz.func277,Tryz.ntmps277
  go_wp2_with fail
  refine HG.out.mono ?_
  rintro e w1 ⟨v1,rfl,hv1,hb1⟩
  have hr1:=HR.out.keep (S:=fun _=>True) (ZmT _ hb1) trivial (fun _ _=>trivial) HBS.out
  have HQ:=Lib.hid (HGO.out [] (.slice none 0 0) 100 w1 hr1 (BIn.nil_ _ _))
  have HB1:=Lib.hid hb1
  clear hv1 hb1 hr1 HG HGO
  go_wp2_with fail
  refine HQ.out.mono ?_
  rintro e w2 ⟨rfl,h2,k2⟩
  have h2':Rd B w2 g [] true:=by have:=h2;simpa using this
  have H2:=Lib.hid h2'
  have K2:=Lib.hid k2
  clear h2 h2' k2 HQ
  go_wp2_with fail
  go_ret
  exact ⟨rfl,H2.out,(ZmT _ HB1.out).trans K2.out⟩
end Go.Proofs.YtdijhifdjbnkfaaGreat.EV
