import Derived.Test.YtdijhifdjbnkfaaGreatZD17
import Derived.Test.YtdijhifdjbnkfaaGreatZD10
set_option maxRecDepth 100000
set_option maxHeartbeats 8000000
set_option linter.unusedVariables false
set_option linter.unusedSimpArgs false
namespace Go.Proofs.YtdijhifdjbnkfaaGreat.PW
open Go.RowKit MM PM VM
def Rd (B:Nat) (w:World) (g:Nat) (l:List UInt8) (o:Bool):Prop:=∃ v,w.heap[g]? = some (.cells #[v,.bool o] 247 (0,0))∧BIn B w v l
theorem Rd.lt {B:Nat} {w:World} {g:Nat} {l:List UInt8} {o:Bool} (h:Rd B w g l o):g<w.heap.size:=by obtain ⟨v,h,_⟩:=h;exact (Array.getElem?_eq_some_iff.1 h).1
theorem Rd.keep {S:Nat→Prop} {B:Nat} {w w':World} {g:Nat} {l:List UInt8} {o:Bool} (h:Rd B w g l o) (hk:Kep S w w') (hg:S g) (hB:∀ k,k<B→S k) (hBs:B≤w.heap.size):Rd B w' g l o:=by
 have hl:=h.lt
 obtain ⟨v,h,hv⟩:=h
 exact ⟨v,(hk.block g hl hg).trans h,hv.below (hk.below hBs hB)⟩
theorem Zkv (l:List UInt8):(∃ n r,getS l=some (n,r)∧(getL l).1=n∧(getL l).2.2=0∧VG.Zs0 l=r∧n<18446744073709551616)∨(getS l=none∧(getL l).2.2≠0∧VG.Zs0 l=[]∧(getL l).1=0):=by
 have hb:=Zkh l
 by_cases h:(getL l).2.2=0
 ·refine .inl ⟨(getL l).1,l.drop (getL l).2.1,by unfold getS;rw [if_pos h],rfl,h,by unfold VG.Zs0;rw [if_pos h],hb.1⟩
 ·refine .inr ⟨by unfold getS;rw [if_neg h],h,by unfold VG.Zs0;rw [if_neg h],?_⟩
  rcases hb.2.2.1 with e | e | e
  ·exact absurd e h
  ·rw [e]
  ·rw [e]
def Za6 (B g:Nat) (r:Nat×List UInt8×Bool) (w:World) (e:Ending) (w':World):Prop:=e=.returned (.int .i64 r.1)∧Rd B w' g r.2.1 r.2.2∧Kep (fun b=>b≠g) w w'
theorem ZsL {B:Nat} {w w1:World} {g:Nat} {l m:List UInt8} {o:Bool} {v:Value} (h:Rd B w g l o) (hb:Below w.heap.size w w1) (hB:B≤g) (hv:BIn B w1 v m):Rd B (w1.setCell ⟨g,0,none⟩ v) g m o:=by
 obtain ⟨v0,h,_⟩:=h
 have hlt:=(Array.getElem?_eq_some_iff.1 h).1
 have h1:=heap_setCell_same w1 g 0 _ _ v ((hb.block g hlt).trans h)
 exact ⟨v,h1,hv.below ((Below.refl B w1).setCell (p:=⟨g,0,none⟩) hB v)⟩
theorem ZsM {B:Nat} {w w1:World} {g:Nat} {l:List UInt8} {o:Bool} (h:Rd B w g l o) (hb:Below w.heap.size w w1):Rd B ((w1.setCell ⟨g,0,none⟩ (.slice none 0 0)).setCell ⟨g,1,none⟩ (.bool true)) g [] true:=by
 obtain ⟨v0,h,_⟩:=h
 have hlt:=(Array.getElem?_eq_some_iff.1 h).1
 have h1:=heap_setCell_same w1 g 0 _ _ (.slice none 0 0) ((hb.block g hlt).trans h)
 have h2:=heap_setCell_same _ g 1 _ _ (.bool true) h1
 exact ⟨.slice none 0 0,h2,BIn.nil_ _ _⟩
theorem Zpj (B g:Nat) (l:List UInt8) (o:Bool) (lo hi:Int) (w:World) (h:Rd B w g l o) (hB:B≤g) (h0:0≤lo) (h1:hi≤9223372036854775807) :
  Calls Tryz.prog 167 #[.pointer (some ⟨g,0,none⟩),.int .i64 lo,.int .i64 hi] w (Za6 B g (Zo4 lo hi l o) w):=by
 have HR:=Lib.hid h
 have hlt:=h.lt
 obtain ⟨v,hc,hv⟩:=h
 have f0:w.cell? ⟨g,0,none⟩=some v:=by rw [cell_of_row w g 0 _ _ _ hc];rfl
 have HC:=Lib.hid hc
 have HG:=Lib.hid (VG.ZkF B v l w hv (Nat.le_of_lt (Nat.lt_of_le_of_lt hB hlt)))
 have hF:∀ w1,Below w.heap.size w w1→w1.cell? ⟨g,0,none⟩=some v∧w1.cell? ⟨g,1,none⟩=some (.bool o)∧w1.frozen? ⟨g,0,none⟩=false∧w1.frozen? ⟨g,1,none⟩=false:=fun w1 hb=>by
  have:=(hb.block g hlt).trans hc
  exact ⟨by rw [cell_of_row w1 g 0 _ _ _ this];rfl,by rw [cell_of_row w1 g 1 _ _ _ this];rfl,frozen_of_row w1 g 0 _ _ this,frozen_of_row w1 g 1 _ _ this⟩
 have HF:=Lib.hid hF
 have HK:Hid (∀ w1,Below w.heap.size w w1→Kep (fun b=>b≠g) w w1):=Lib.hid (fun w1 hb=>ZmT _ hb)
 have bad:∀ w1,Below w.heap.size w w1→Za6 B g (0,[],true) w (.returned (.int .i64 ((0:Nat):Int))) ((w1.setCell ⟨g,0,none⟩ (.slice none 0 0)).setCell ⟨g,1,none⟩ (.bool true)):=fun w1 hb =>
  ⟨rfl,ZsM HR.out hb,((HK.out w1 hb).trans (ZmZ (by simp) _)).trans (ZmZ (by simp) _)⟩
 have BAD:=Lib.hid bad
 rcases Zkv l with ⟨n,r,hs,e1,e2,e3,hn⟩ | ⟨hs,e2,e3,e1⟩
 ·rw [e1,e2,e3] at HG
  obtain ⟨W,hW⟩:∃ W,IntKind.i64.wrap (n:Int)=W:=⟨_,rfl⟩
  have hWv:((n:Int)<9223372036854775808∧W=(n:Int))∨(¬ (n:Int)<9223372036854775808∧W<0):=by
   rw [← hW,IntKind.wrap_i64]
   omega
  by_cases hok:lo≤(n:Int)∧(n:Int)≤hi
  ·have hnum:numL lo hi l=some (n,r):=by unfold numL;rw [hs];exact if_pos hok
   rw [Zo8 hnum]
   have hWn:W=(n:Int):=by omega
   have t1:decide (W<lo)=false:=decide_eq_false (by omega)
   have t2:decide (W>hi)=false:=decide_eq_false (by omega)
   rw [hWn] at hW t1 t2
   have HV:=Lib.hid (fun w1 v1 (hb:Below w.heap.size w w1) (hv1:BIn B w1 v1 r)=>ZsL HR.out hb hB hv1)
   clear hv hc hF bad BAD hs e1 e2 e3 hWv hok hnum hWn
   go_enter Tryz.func167,Tryz.ntmps167
   go_wp2_with fail
   refine HG.out.mono ?_
   rintro e w1 ⟨v1,rfl,hv1,hb1⟩
   obtain ⟨g0,g1,g2,g3⟩:=HF.out w1 hb1
   have HB1:=Lib.hid hb1
   have HV1:=Lib.hid (HV.out w1 v1 hb1 hv1)
   have hone:v1.oneCell'=true:=by obtain ⟨p,c,rfl,_⟩:=hv1;rfl
   obtain ⟨p1,c1,rfl,_⟩:=BIn.shape hv1
   clear hv1 hb1 HV HG
   go_wp2_with fail
   go_ret
   exact ⟨rfl,HV1.out,(HK.out w1 HB1.out).trans (ZmZ (by simp) _)⟩
  ·have hnum:numL lo hi l=none:=by unfold numL;rw [hs];exact if_neg hok
   rw [Zo6 hnum]
   by_cases hWl:W<lo
   ·have t1:decide (W<lo)=true:=decide_eq_true hWl
    clear hv hc hF bad hs e1 e2 e3 hWv hok hnum hWl
    go_enter Tryz.func167,Tryz.ntmps167
    go_wp2_with fail
    refine HG.out.mono ?_
    rintro e w1 ⟨v1,rfl,hv1,hb1⟩
    obtain ⟨g0,g1,g2,g3⟩:=HF.out w1 hb1
    have BB:=Lib.hid (BAD.out w1 hb1)
    clear hv1 hb1 HG BAD
    go_wp2_with fail
    go_ret
    exact BB.out
   ·have t1:decide (W<lo)=false:=decide_eq_false hWl
    have t2:decide (W>hi)=true:=decide_eq_true (by omega)
    clear hv hc hF bad hs e1 e2 e3 hWv hok hnum hWl
    go_enter Tryz.func167,Tryz.ntmps167
    go_wp2_with fail
    refine HG.out.mono ?_
    rintro e w1 ⟨v1,rfl,hv1,hb1⟩
    obtain ⟨g0,g1,g2,g3⟩:=HF.out w1 hb1
    have BB:=Lib.hid (BAD.out w1 hb1)
    clear hv1 hb1 HG BAD
    go_wp2_with fail
    go_ret
    exact BB.out
 ·have hnum:numL lo hi l=none:=by unfold numL;rw [hs]
  rw [Zo6 hnum]
  rw [e1,e3] at HG
  obtain ⟨er,her⟩:∃ er,(getL l).2.2=er:=⟨_,rfl⟩
  rw [her] at HG e2
  have t0:(er != 0)=true:=by rw [bne_iff_ne];exact e2
  have t0b:(er == 0)=false:=by rw [beq_eq_false_iff_ne];exact e2
  clear hv hc hF bad hs e1 e2 e3 hnum her
  go_enter Tryz.func167,Tryz.ntmps167
  go_wp2_with fail
  refine HG.out.mono ?_
  rintro e w1 ⟨v1,rfl,hv1,hb1⟩
  obtain ⟨g0,g1,g2,g3⟩:=HF.out w1 hb1
  have BB:=Lib.hid (BAD.out w1 hb1)
  clear hv1 hb1 HG BAD
  go_wp2_with fail
  go_ret
  exact BB.out
theorem ZuM (B g:Nat) (l:List UInt8) (o:Bool) (N fin:Int) (w:World) (h:Rd B w g l o) (hB:B≤g) (h0:0≤N) (h1:N≤1099511627776) (h2:0≤fin) (h3:fin≤1099511627776) :
  Calls Tryz.prog 214 #[.pointer (some ⟨g,0,none⟩),.int .i64 N,.int .i64 fin] w fun e w'=>e=.returned (.int .i64 (N+(Zo4 0 (fin - 1 - N) l o).1))∧Rd B w' g (Zo4 0 (fin - 1 - N) l o).2.1 (Zo4 0 (fin - 1 - N) l o).2.2∧Kep (fun b=>b≠g) w w':=by
 have HN:=Lib.hid (Zpj B g l o 0 (fin - 1 - N) w h hB (by omega) (by omega))
 have hb:=(Zo5 0 (fin - 1 - N) l o).1
 obtain ⟨R,hR⟩:∃ R,Zo4 0 (fin - 1 - N) l o=R:=⟨_,rfl⟩
 rw [hR] at HN hb ⊢
 unfold Za6 at HN
 obtain ⟨n,l1,o1⟩:=R
 dsimp only at HN hb ⊢
 have hb2:(n:Int)≤1099511627776:=by omega
 clear h hR hb
 go_enter Tryz.func214,Tryz.ntmps214
 go_wp2_with fail
 refine HN.out.mono ?_
 rintro e w1 ⟨rfl,h4,h5⟩
 have H4:=Lib.hid h4
 have H5:=Lib.hid h5
 clear h4 h5 HN
 go_wp2_with fail
 go_ret
 exact ⟨rfl,H4.out,H5.out⟩
end Go.Proofs.YtdijhifdjbnkfaaGreat.PW
namespace Go.Proofs.YtdijhifdjbnkfaaGreat.PW
open Go.RowKit MM PM VM
theorem Zl4:(Tryz.prog.info? 256).map (fun i=>(i.zero,i.size,i.bytes))=some (some (.agg #[.int .i64 0,.int .i64 0]),2,16):=by kernel_rfl
def ZaU (e:TypeId) (w:World) (g N:Nat) (zs:List Int):Prop:=g<w.heap.size∧∃ cur,w.heap[g]? = some (.cells cur e)∧cur.size=N∧zs.length≤N∧cur.toList.take zs.length=zs.map (Value.int .i64)
theorem ZaU.next {e:TypeId} {w:World} {g n:Nat} {zs:List Int} (h:ZaU e w g n zs) (hk:zs.length<n) (z:Int):ZaU e (w.setCell ⟨g,zs.length,none⟩ (.int .i64 z)) g n (zs++[z]):=by
 obtain ⟨h1,cur,h2,h3,h4,h5⟩:=h
 have:=heap_setCell_same w g zs.length _ _ (.int .i64 z) h2
 refine ⟨by simpa using h1,_,this,by simp [h3],by simp;omega,?_⟩
 rw [List.length_append,List.length_singleton,List.take_succ_eq_append_getElem (by simp;omega)]
 simp only [Array.toList_setIfInBounds,List.map_append,List.map_singleton]
 rw [List.take_set_of_le (by omega),h5]
 simp
theorem ZaU.cell {e:TypeId} {w:World} {g n:Nat} {zs:List Int} (h:ZaU e w g n zs) {k:Nat} (hk:k<n):(∃ u,w.cell? ⟨g,k,none⟩=some u)∧w.frozen? ⟨g,k,none⟩=false:=by
 obtain ⟨h1,cur,h2,h3,h4,h5⟩:=h
 exact ⟨by rw [cell_of_row w g k _ _ _ h2];exact ⟨_,Array.getElem?_eq_getElem (by omega)⟩,frozen_of_row w g k _ _ h2⟩
theorem ZaU.get {e:TypeId} {w:World} {g n:Nat} {zs:List Int} (h:ZaU e w g n zs) {k:Nat} {z:Int} (hk:zs[k]? = some z):w.cell? ⟨g,k,none⟩=some (.int .i64 z):=by
 obtain ⟨h1,cur,h2,h3,h4,h5⟩:=h
 obtain ⟨hlt,rfl⟩:=List.getElem?_eq_some_iff.1 hk
 rw [cell_of_row w g k _ _ _ h2]
 have:=congrArg (fun l=>l[k]?) h5
 simp only [List.getElem?_take,hlt,if_true,List.getElem?_map,List.getElem?_eq_getElem hlt,Option.map_some] at this
 simpa using this
theorem ZaU.keep {e:TypeId} {S:Nat→Prop} {w w':World} {g n:Nat} {zs:List Int} (h:ZaU e w g n zs) (hk:Kep S w w') (hS:S g):ZaU e w' g n zs:=by
 obtain ⟨h1,cur,h2,h3⟩:=h
 exact ⟨Nat.lt_of_lt_of_le h1 hk.size,cur,by rw [hk.block g h1 hS];exact h2,h3⟩
theorem Zk2 {B:Nat} {w:World} {g n:Nat} {xs:List Value} (h:w.ownsRow B 256 2 (.slice (some ⟨g,0,none⟩) n n) n xs):ZaU 256 w g (n*2) []:=by
 rcases h.2 with ⟨hv,_⟩ | ⟨g',cap,cur,hv,hb,hh,hn,hm,hs,ht⟩
 ·cases hv
 ·simp only [Value.slice.injEq,Option.some.injEq,Addr.mk.injEq] at hv
  obtain ⟨⟨rfl,_⟩,_,rfl⟩:=hv
  exact ⟨(Array.getElem?_eq_some_iff.1 hh).1,cur,hh,hs,by simp,by simp⟩
def ZiS (hs:List (Nat×Nat)):List Int:=hs.flatMap fun h=>[(h.1:Int),(h.2:Int)]
theorem ZiU (hs:List (Nat×Nat)):(ZiS hs).length=hs.length*2:=by
 induction hs with
 | nil=>rfl
 | cons t ts ih =>
   have e:ZiS (t::ts)=[(t.1:Int),(t.2:Int)]++ZiS ts:=rfl
   rw [e,List.length_append,ih,List.length_cons]
   simp;omega
theorem ZiV (hs:List (Nat×Nat)) (x y:Nat):ZiS (hs++[(x,y)])=ZiS hs++[(x:Int)]++[(y:Int)]:=by simp [ZiS]
theorem ZiT:∀ (hs:List (Nat×Nat)) (i:Nat) (x y:Nat),hs[i]? = some (x,y)→(ZiS hs)[i*2]? = some (x:Int)∧(ZiS hs)[i*2+1]? = some (y:Int)
 | [],i,x,y,h=>by simp at h
 | t::ts,0,x,y,h=>by
   simp only [List.getElem?_cons_zero,Option.some.injEq] at h
   subst h
   exact ⟨rfl,rfl⟩
 | t::ts,i+1,x,y,h=>by
   have:=ZiT ts i x y (by simpa using h)
   have e:ZiS (t::ts)=(t.1:Int)::(t.2:Int)::ZiS ts:=rfl
   rw [e,show (i+1)*2=i*2+1+1 by omega]
   simpa using this
def ZaV (B g:Nat) (b:List UInt8) (n:Nat) (os o:Bool) (l0:List UInt8) (w:World) (e:Ending) (w':World):Prop :=
 ∃ hs l o1 H,e=.returned (.slice (some ⟨H,0,none⟩) (cnt n) (cnt n))∧w.heap.size≤H∧ZaU 256 w' H (cnt n*2) (ZiS hs)∧HSt b n o l0 (cnt n) hs l o1∧(os=true→o1=true)∧Rd B w' g l o1∧Kep (fun b=>b≠g) w w'
theorem Zlv (B g:Nat) (b l:List UInt8) (n:Nat) (oo o:Bool) (w:World) (h:Rd B w g l o) (hB:B≤g) (hb:b.length<4611686018427387904) (hn:n≤1000000) (hc:HSt b n oo l 0 [] l o) :
  Calls Tryz.prog 169 #[.pointer (some ⟨g,0,none⟩),.int .i64 (cnt n)] w (ZaV B g b n o oo l w):=by
 obtain ⟨i0,hi,hz0,hz1,hz2⟩:=info_parts Zl4
 have hcn:cnt n≤1000000:=by unfold cnt;omega
 have HST:=Lib.hid (fun i hs l1 o1 (h:HSt b n oo l i hs l1 o1) (hi:i<cnt n)=>ZlS hb h hi)
 have hglt:=h.lt
 have HR:=Lib.hid h
 have HC0:Hid (HSt b n oo l 0 [] l o):=Lib.hid hc
 obtain ⟨c,hcc⟩:∃ c,cnt n=c:=⟨_,rfl⟩
 unfold ZaV
 rw [hcc] at hcn ⊢
 simp only [hcc] at HST
 clear h hc hb hn hcc
 go_enter Tryz.func169,Tryz.ntmps169
 go_wp2_with (at_make;refine wpList_make_full w rfl _ _ 251 rfl w.heap.size 256 i0 (.agg #[.int .i64 0,.int .i64 0]) 2 Tryz.underlying251 hi hz0 hz1 .i64 .i64 _ _ c rfl rfl rfl rfl (by rw [hz2];omega) (by unfold maxLen;omega) (Nat.le_refl _) ?_)
 intro w2 hown2 hg2
 have b2:=(Below.refl w.heap.size w).grown hg2 (Nat.le_refl _) (fun k h=>by cases h)
 have HH0:Hid (ZaU 256 w2 w.heap.size (c*2) (ZiS [])):=Lib.hid (Zk2 hown2)
 have HR2:=Lib.hid (HR.out.keep (ZmT (fun _=>True) b2) trivial (fun _ _=>trivial) (by omega))
 have HK0:=Lib.hid (ZmT (fun b=>b≠g) b2)
 have HG:=Lib.hid (show w.heap.size≠g by omega)
 clear hown2 hg2 b2 hi hz0 hz1 hz2 HR
 go_wp2_with fail
 go_loopw [11] (fun iv wr=>∃ (i:Nat) (hs:List (Nat×Nat)) (l1:List UInt8) (o1:Bool),i≤c∧iv=.int .i64 i∧Hid (HSt b n oo l i hs l1 o1)∧Hid (o=true→o1=true)∧Hid (ZaU 256 wr w.heap.size (c*2) (ZiS hs))∧Hid (Rd B wr g l1 o1)∧Hid (Kep (fun b=>b≠g) w wr)) (fun iv _=>c - (intOf iv).toNat)
 case atStart=>exact ⟨0,[],l,o,by omega,rfl,HC0,Lib.hid (fun e=>e),HH0,HR2,HK0⟩
 case round =>
  obtain ⟨i,hs,l1,o1,hi,rfl,HC,HOD,HH,HRd,HK⟩:=hrel
  clear HC0 HH0 HR2 HK0
  by_cases hlt:i<c
  ·have t1:decide ((i:Int)<(c:Int))=true:=by simp;omega
   have hst:=HST.out i hs l1 o1 HC.out hlt
   have hnum:=Zpj B g l1 o1 0 9223372036854775807 wr HRd.out hB (by omega) (by omega)
   have hil:=HC.out.1
   have HOD2:Hid (o=true→(Zo4 0 9223372036854775807 (Zo4 0 9223372036854775807 l1 o1).2.1 (Zo4 0 9223372036854775807 l1 o1).2.2).2.2=true):=Lib.hid (fun e=>Zo7 (Zo7 (HOD.out e)))
   obtain ⟨R,hR⟩:∃ R,Zo4 0 9223372036854775807 l1 o1=R:=⟨_,rfl⟩
   rw [hR] at hnum hst HOD2
   have HNUM:=Lib.hid hnum
   have HSTi:=Lib.hid hst
   have hfl:(ZiS hs).length=i*2:=by rw [ZiU,hil]
   have HFL:=Lib.hid hfl
   clear hnum hst hR hil hfl
   go_wp2_with fail
   refine HNUM.out.mono ?_
   rintro e w3 ⟨rfl,h3,k3⟩
   obtain ⟨x,l2,o2⟩:=R
   dsimp only at h3 HSTi HOD2 ⊢
   have hh3:=HH.out.keep k3 HG.out
   obtain ⟨⟨u0,f0⟩,f1⟩:=hh3.cell (k:=i*2) (by omega)
   have hh4:=hh3.next (by rw [HFL.out];omega) (x:Int)
   rw [HFL.out] at hh4
   have hb4:Kep (fun b=>b≠w.heap.size) w3 (w3.setCell ⟨w.heap.size,i*2,none⟩ (.int .i64 (x:Int))):=ZmZ (by simp) _
   have hr4:Rd B (w3.setCell ⟨w.heap.size,i*2,none⟩ (.int .i64 (x:Int))) g l2 o2:=h3.keep hb4 (Ne.symm HG.out) (fun k hk=>by omega) (by have:=h3.lt;omega)
   have hnum:=Zpj B g l2 o2 0 9223372036854775807 _ hr4 hB (by omega) (by omega)
   obtain ⟨R2,hR2⟩:∃ R,Zo4 0 9223372036854775807 l2 o2=R:=⟨_,rfl⟩
   rw [hR2] at hnum HSTi HOD2
   have HNUM2:=Lib.hid hnum
   have HH4:=Lib.hid hh4
   have hwz:w.heap.size≤w3.heap.size:=Nat.le_trans HK.out.size k3.size
   have HK4:=Lib.hid ((HK.out.trans k3).andThen hb4 (fun k hk _=>by omega))
   clear h3 k3 hh3 hh4 hb4 hr4 hnum hR2 HNUM HH HRd HK
   go_wp2_with fail
   refine HNUM2.out.mono ?_
   rintro e w5 ⟨rfl,h5,k5⟩
   obtain ⟨y,l3,o3⟩:=R2
   dsimp only at h5 HSTi HOD2 ⊢
   have hh5:=HH4.out.keep k5 HG.out
   have hl5:(ZiS hs++[(x:Int)]).length=i*2+1:=by rw [List.length_append,HFL.out];rfl
   have g0:∃ u,w5.cell? ⟨w.heap.size,i*2+1,none⟩=some u:=(hh5.cell (k:=i*2+1) (by omega)).1
   obtain ⟨u1,g0⟩:=g0
   have g1:=(hh5.cell (k:=i*2+1) (by omega)).2
   have hh6:=hh5.next (by rw [hl5];omega) (y:Int)
   rw [hl5,← ZiV] at hh6
   have hb6:Kep (fun b=>b≠w.heap.size) w5 (w5.setCell ⟨w.heap.size,i*2+1,none⟩ (.int .i64 (y:Int))):=ZmZ (by simp) _
   have HR6:Hid (Rd B (w5.setCell ⟨w.heap.size,i*2+1,none⟩ (.int .i64 (y:Int))) g l3 o3):=Lib.hid (h5.keep hb6 (Ne.symm HG.out) (fun k hk=>by omega) (by have:=h5.lt;omega))
   have HH6:=Lib.hid hh6
   have HK6:=Lib.hid ((HK4.out.trans k5).andThen hb6 (fun k hk _=>by omega))
   clear h5 k5 hh5 hl5 hh6 hb6 HNUM2 HH4 HK4
   go_wp2_with fail
   go_roundw
   case rel=>exact ⟨i+1,_,_,_,by omega,by go_num,HSTi,HOD2,HH6,HR6,HK6⟩
   case measure=>simp [intOf];omega
  ·obtain rfl:i=c:=by omega
   have t1:decide ((i:Int)<(i:Int))=false:=by simp
   go_wp2_with fail
   go_ret
   exact ⟨hs,l1,o1,w.heap.size,rfl,Nat.le_refl _,HH.out,HC.out,HOD.out,HRd.out,HK.out⟩
end Go.Proofs.YtdijhifdjbnkfaaGreat.PW
namespace Go.Proofs.YtdijhifdjbnkfaaGreat.PW
open Go.RowKit MM PM VM
theorem ZzC {P:Program} (w:World) {o:Oper} {a:Act} {K:Act→World→Prop} {Q:Exit→Act→World→Prop} (l c:Operand) (t:TypeId) (hop:o.op=Op.makeSlice t l c)
  (base:Nat) (e:TypeId) (i:TypeInfo) (z:Value) (size:Nat) (h1:P.underlying t=some (.slice e)) (h2:P.info? e=some i) (h3:i.zero=some z) (h4:i.size=size)
  (kl kc:IntKind) (n:Nat) (hl:a.eval l=.int kl n) (hc:a.eval c=.int kc n) (b2:i.bytes*n≤281474976710656) (b3:n≤maxLen) (b4:base≤w.heap.size)
  (hK:∀ w',w'.ownsRow base e size (.slice (some ⟨w.heap.size,0,none⟩) n n) n (madeCells z.cells (n*size)).toList→w.grownBy w' none→K (a.put o.dst (.slice (some ⟨w.heap.size,0,none⟩) n n)) w'):o.wp P a w K Q:=by
 obtain ⟨w',hrun,r1,r2⟩:=run_make_full (P:=P) w base t e i z size h1 h2 h3 h4 kl kc n b2 b3 b4
 unfold Oper.wp
 simp [execOp,hop,hl,hc,hrun,Result.andThen]
 exact hK w' r1 r2
theorem Zl8:(Tryz.prog.info? 125).map (·.size)=some 2:=by kernel_rfl
def Za4 (B g q:Nat) (N:Int) (l:List UInt8) (o:Bool) (w:World) (e:Ending) (w':World):Prop :=
 ∃ d qs l' o' pv,e=.returned (.agg #[.int .i64 d,pv])∧PSt N l o d qs l' o'∧Rd B w' g l' o'∧w'.heap[q]? = some (.cells #[.int .i64 (d+1)] 3 (0,0))∧OwnI w.heap.size w' pv qs∧Kep (fun b=>b≠g∧b≠q) w w'
theorem ZoN (B g tb q:Nat) (l:List UInt8) (o:Bool) (N:Int) (w:World) (h:Rd B w g l o) (hB:B≤g) (ht:w.heap[tb]? = some (.cells #[.pointer (some ⟨g,0,none⟩)] 287 (0,0))) (htg:tb≠g) (hq:w.heap[q]? = some (.cells #[.int .i64 N] 3 (0,0))) (hqg:q≠g) (hqt:q≠tb) (hBq:B≤q) (h0:0≤N) (h1:N≤1000000) (hl:l.length≤1000000000) :
  Calls Tryz.prog 213 #[.pointer (some ⟨tb,0,none⟩),.pointer (some ⟨q,0,none⟩)] w (Za4 B g q N l o w):=by
 obtain ⟨i0,hi,hz0,hz1,hz2⟩:=info_parts Zl5
 have htl:=(Array.getElem?_eq_some_iff.1 ht).1
 have hql:=(Array.getElem?_eq_some_iff.1 hq).1
 have hgl:=h.lt
 have hal:Below w.heap.size w (w.alloc (.cells #[.int .i64 0,.slice none 0 0] 125)):=(Below.refl _ _).alloc (Nat.le_refl _) _
 obtain ⟨W1,hW1⟩:∃ W,w.alloc (.cells #[.int .i64 0,.slice none 0 0] 125)=W:=⟨_,rfl⟩
 have hbb:W1.heap[w.heap.size]? = some (.cells #[.int .i64 0,.slice none 0 0] 125):=by rw [← hW1];exact heap_alloc_new _ _
 have hs1:w.heap.size+1=W1.heap.size:=by rw [← hW1];simp
 rw [hW1] at hal
 have hr1:=h.keep (ZmT (fun _=>True) hal) trivial (fun _ _=>trivial) (by omega)
 have ht1:=(hal.block tb htl).trans ht
 have hq1:=(hal.block q hql).trans hq
 have hris:=ZuM B g l o N 65536 W1 hr1 hB h0 (by omega) (by omega) (by omega)
 rw [show (65536:Int) - 1 - N=65535 - N by omega] at hris
 obtain ⟨r1,hr⟩:∃ r,Zo4 0 (65535 - N) l o=r:=⟨_,rfl⟩
 have hbeg:=Zsc h0 l o r1 _ hr rfl
 rw [hr] at hris
 have hlen1:=(Zo5 0 (65535 - N) l o).2
 rw [hr] at hlen1
 obtain ⟨r2,hr2⟩:∃ r,Zo4 1 (min 1048576 (r1.2.1.length:Int)) r1.2.1 r1.2.2=r:=⟨_,rfl⟩
 have HN2:=Lib.hid (fun W (hW:Rd B W g r1.2.1 r1.2.2)=>Zpj B g r1.2.1 r1.2.2 1 (min 1048576 (r1.2.1.length:Int)) W hW hB (by omega) (by omega))
 rw [hr2] at HN2 hbeg
 obtain ⟨x,l1,o1⟩:=r1
 obtain ⟨m,l2,o2⟩:=r2
 dsimp only at hris hbeg hlen1 HN2
 unfold Za6 at HN2
 dsimp only at HN2
 obtain ⟨hq0,hz,hm,hdm⟩:=hbeg
 obtain ⟨d,hd⟩:∃ d,N+(x:Int)=d:=⟨_,rfl⟩
 rw [hd] at hris hq0 hdm
 have hd0:N≤d:=by omega
 have HQ0:=Lib.hid hq0
 have HZ:=Lib.hid hz
 have HRIS:=Lib.hid hris
 have HDM:=Lib.hid hdm
 have HD0:=Lib.hid hd0
 have hdb:d≤1000000:=by omega
 have hd00:0≤d:=by omega
 have f0:W1.cell? ⟨tb,0,none⟩=some (.pointer (some ⟨g,0,none⟩)):=by rw [cell_of_row W1 tb 0 _ _ _ ht1];rfl
 have f1:W1.cell? ⟨q,0,none⟩=some (.int .i64 N):=by rw [cell_of_row W1 q 0 _ _ _ hq1];rfl
 have HT1:=Lib.hid ht1
 have HQ1:=Lib.hid hq1
 have HBB:=Lib.hid hbb
 have HAL:=Lib.hid hal
 have HTG:=Lib.hid htg
 have HQG:=Lib.hid hqg
 have HQT:=Lib.hid hqt
 have HTL:=Lib.hid htl
 have HQL:=Lib.hid hql
 have HGL:=Lib.hid hgl
 have HS1:=Lib.hid hs1
 have HW1:=Lib.hid hW1
 have hl1:l1.length≤1000000000:=by omega
 clear h ht hq hr1 ht1 hq1 hbb hal hq0 hz hris hr hr2 hdm hd hd0 htg hqg hqt htl hql hgl hs1 hlen1
 go_enter Tryz.func213,Tryz.ntmps213
 go_wp2_with fail
 refine HRIS.out.mono ?_
 rintro e w2 ⟨rfl,hR2,hK2⟩
 have ht2:=(hK2.block tb (by have:=HTL.out;have:=HS1.out;omega) HTG.out).trans HT1.out
 have hq2:=(hK2.block q (by have:=HQL.out;have:=HS1.out;omega) HQG.out).trans HQ1.out
 have hb2:=(hK2.block w.heap.size (by have:=HS1.out;omega) (by have:=HGL.out;omega)).trans HBB.out
 have g0:w2.cell? ⟨q,0,none⟩=some (.int .i64 N):=by rw [cell_of_row w2 q 0 _ _ _ hq2];rfl
 have g1:w2.frozen? ⟨q,0,none⟩=false:=frozen_of_row w2 q 0 _ _ hq2
 have hq3:=heap_setCell_same w2 q 0 _ _ (.int .i64 (d+1)) hq2
 have hk3:Kep (fun b=>b≠q) w2 (w2.setCell ⟨q,0,none⟩ (.int .i64 (d+1))):=ZmZ (by simp) _
 obtain ⟨W3,hW3⟩:∃ W,w2.setCell ⟨q,0,none⟩ (.int .i64 (d+1))=W:=⟨_,rfl⟩
 rw [hW3] at hq3 hk3
 have ht3:=(hk3.block tb (Array.getElem?_eq_some_iff.1 ht2).1 (Ne.symm HQT.out)).trans ht2
 have hb3:=(hk3.block w.heap.size (Array.getElem?_eq_some_iff.1 hb2).1 (by have:=HQL.out;omega)).trans hb2
 have hR3:=hR2.keep hk3 (Ne.symm HQG.out) (fun k hk=>by omega) (by have:=hR2.lt;omega)
 have hK13:Kep (fun b=>b≠g∧b≠q) W1 W3:=(hK2.mono (fun k hk=>hk.1)).andThen hk3 (fun k _ hk=>hk.2)
 have HW3:=Lib.hid hW3
 have HQ3:=Lib.hid hq3
 have HT3:=Lib.hid ht3
 have HB3:=Lib.hid hb3
 have HR3:=Lib.hid hR3
 have HK13:=Lib.hid hK13
 clear hR2 hK2 ht2 hq2 hb2 hq3 hk3 ht3 hb3 hR3 hK13 f0 f1 HRIS
 have g2:W3.cell? ⟨tb,0,none⟩=some (.pointer (some ⟨g,0,none⟩)):=by rw [cell_of_row W3 tb 0 _ _ _ HT3.out];rfl
 go_wp2_with fail
 refine RK.ZcJ (T:=fun b=>b≠g) [(0,true),(1,true),(2,true),(3,true),(4,false),(5,true),(6,true),(7,false),(8,false),(9,true)] (by kernel_rfl) (by kernel_rfl) rfl (by kernel_rfl) (fun _ _ d _ _ h=>by cases d<;>exact h) ?_
 simp only [RK.ZpY,List.map_cons,List.map_nil,List.getElem?_toArray,List.getElem?_cons_succ,List.getElem?_cons_zero]
 obtain ⟨WD,hwd⟩:∃ wd,W3.drew=wd:=⟨_,rfl⟩
 rw [hwd]
 have hkd:Kep (fun _=>True) W3 WD:=by rw [← hwd];exact ZmV _ _
 have hTD:=(hkd.block tb (Array.getElem?_eq_some_iff.1 HT3.out).1 trivial).trans HT3.out
 have hQD:=(hkd.block q (Array.getElem?_eq_some_iff.1 HQ3.out).1 trivial).trans HQ3.out
 have hBD:=(hkd.block w.heap.size (Array.getElem?_eq_some_iff.1 HB3.out).1 trivial).trans HB3.out
 have hRD:=HR3.out.keep hkd trivial (fun _ _=>trivial) (by have:=HR3.out.lt;omega)
 have hKD:=HK13.out.andThen (T:=fun _=>True) hkd (fun _ _ _=>trivial)
 have HTD:=Lib.hid hTD
 have HQD:=Lib.hid hQD
 have HBD:=Lib.hid hBD
 have HRD:=Lib.hid hRD
 have HKD:=Lib.hid hKD
 clear hwd hkd hTD hQD hBD hKD g2 g0 g1 HT3 HQ3 HB3 HR3 HK13
 have hTDl:=(Array.getElem?_eq_some_iff.1 HTD.out).1
 have f1:=fun W (hW:Kep (fun b=>b≠g) WD W)=>(hW.cell (b:=tb) hTDl HTG.out 0).trans (show WD.cell? ⟨tb,0,none⟩=some (.pointer (some ⟨g,0,none⟩)) by rw [cell_of_row WD tb 0 _ _ _ HTD.out];rfl)
 obtain ⟨vr,hvr,hvb⟩:=hRD
 have f2:WD.cell? ⟨g,0,none⟩=some vr:=by rw [cell_of_row WD g 0 _ _ _ hvr];rfl
 obtain ⟨pr,cr,rfl,hc1,hc2⟩:=hvb.shape
 unfold maxLen at hc2
 have hmin:(if (l1.length:Int)<1048576 then (l1.length:Int) else 1048576)=min 1048576 (l1.length:Int):=by split<;>omega
 have hmin2:(if 1048576<(l1.length:Int) then 1048576 else (l1.length:Int))=min 1048576 (l1.length:Int):=by split<;>omega
 obtain ⟨MN,hMN⟩:∃ MN,min 1048576 (l1.length:Int)=MN:=⟨_,rfl⟩
 rw [hMN] at hmin hmin2 HN2
 clear hvr hvb
 repeat ((first | (refine RK.take (by rfl) (by intro W hW;go_simp;with_reducible rfl) ?_) | (refine RK.skip (by rfl) ?_) | (refine RK.Zce (by rfl) ?_));simp only [Act.put,List.setIfInBounds_toArray,List.set_cons_zero,List.set_cons_succ])
 refine RK.alone (by rfl) (fun K hK => ?_)
 go_simp
 refine hK.out _ _ (Kep.refl _ _) ?_
 clear hK K
 repeat ((first | (refine RK.take (by rfl) (by intro W hW;go_simp;with_reducible rfl) ?_) | (refine RK.skip (by rfl) ?_) | (refine RK.Zce (by rfl) ?_));simp only [Act.put,List.setIfInBounds_toArray,List.set_cons_zero,List.set_cons_succ])
 refine RK.alone (by rfl) (fun K hK => ?_)
 go_simp
 refine (HN2.out WD HRD.out).mono ?_
 rintro e w5 ⟨rfl,hR5,hK5⟩
 go_simp
 refine hK.out _ _ hK5 ?_
 have hsz5:w.heap.size≤w5.heap.size:=by have h1:=HAL.out.size;have h2:=HKD.out.size;have h3:=hK5.size;omega
 have HR5:=Lib.hid hR5
 have HK5:=Lib.hid hK5
 clear hK K f1 f2 hR5 hK5 HN2
 refine RK.alone (by rfl) (fun K hK => ?_)
 refine ZzC w5 _ _ 69 rfl w.heap.size 3 i0 (.int .i64 0) 1 Tryz.underlying69 hi hz0 hz1 .i64 .i64 m rfl rfl (by rw [hz2];omega) (by unfold maxLen;omega) hsz5 ?_
 intro W6 hown6 hg6
 have hb6:Below w5.heap.size w5 W6:=(Below.refl _ _).grown hg6 (Nat.le_refl _) (fun k h=>by cases h)
 go_simp
 refine hK.out _ _ (ZmT _ hb6) ?_
 have hH6:ZaQ W6 w5.heap.size m []:=ZkX hown6
 have hT6:=(hb6.block tb (by have:=HK5.out.size;omega)).trans ((HK5.out.block tb hTDl HTG.out).trans HTD.out)
 have hQDl:=(Array.getElem?_eq_some_iff.1 HQD.out).1
 have hBDl:=(Array.getElem?_eq_some_iff.1 HBD.out).1
 have hQ6:=(hb6.block q (by have:=HK5.out.size;omega)).trans ((HK5.out.block q hQDl HQG.out).trans HQD.out)
 have hB6:=(hb6.block w.heap.size (by have:=HK5.out.size;omega)).trans ((HK5.out.block w.heap.size hBDl (by have:=HGL.out;omega)).trans HBD.out)
 have hR6:=HR5.out.keep (ZmT (fun _=>True) hb6) trivial (fun _ _=>trivial) (by have:=HR5.out.lt;omega)
 have hK16:Kep (fun b=>b≠g∧b≠q) W1 W6:=(HKD.out.trans (HK5.out.mono (fun k hk=>hk.1))).trans (ZmT _ hb6)
 have hPb:w.heap.size<w5.heap.size:=by have:=HK5.out.size;omega
 have HT6:=Lib.hid hT6
 have HQ6:=Lib.hid hQ6
 have HB6:=Lib.hid hB6
 have HR6:=Lib.hid hR6
 have HH6:=Lib.hid hH6
 have HK16:=Lib.hid hK16
 have hQP:q<w5.heap.size:=by have:=HQL.out;omega
 have hTP:tb<w5.heap.size:=by have:=HTL.out;omega
 have hGP:g<w5.heap.size:=by have:=HGL.out;omega
 clear hK K hown6 hg6 hb6 hT6 hQ6 hB6 hR6 hH6 hK16 HR5 HK5 HTD HQD HBD HRD HKD hTDl hQDl hBDl hi hz0 hz1 hz2 hmin hmin2 hMN hc1 hc2 hl1
 repeat ((first | (refine RK.take (by rfl) (by intro W hW;go_simp;with_reducible rfl) ?_) | (refine RK.skip (by rfl) ?_) | (refine RK.Zce (by rfl) ?_));simp only [Act.put,List.setIfInBounds_toArray,List.set_cons_zero,List.set_cons_succ])
 refine RK.done ?_
 clear hW3 HW3
 have HL0:Hid (Zm6 0 []=0):=Lib.hid rfl
 have HKk0:Hid (Kep (fun b=>b≠g∧b≠w5.heap.size) W6 W6):=Lib.hid (Kep.refl _ _)
 obtain ⟨P,hP⟩:∃ P,w5.heap.size=P:=⟨_,rfl⟩
 rw [hP] at hPb HH6 hQP hTP hGP HKk0 ⊢
 clear hP hsz5
 go_wp2_with fail
 go_loopw [5,23] (fun av iv wr=>∃ (k:Nat) (A:Int) (qs:List Int) (lk:List UInt8) (ok:Bool),k≤m∧iv=.int .i64 k∧av=.int .i64 A∧0≤A∧A≤1048576+k∧Hid (Zm6 0 qs=A)∧Hid (QSt N l o d m k qs lk ok)∧Hid (m=0→ok=true∧lk=[]∧∀ p r,¬ Zbc N l p r)∧Hid (Rd B wr g lk ok)∧Hid (ZaQ wr P m qs)∧Hid (Kep (fun b=>b≠g∧b≠P) W6 wr)) (fun _ iv _=>m - (intOf iv).toNat)
 case atStart=>exact ⟨0,0,[],l2,o2,by omega,rfl,rfl,by omega,by omega,HL0,HQ0,HZ,HR6,HH6,HKk0⟩
 case round =>
  obtain ⟨k,A,qs,lk,ok,hk,rfl,rfl,hA0,hA1,HL,HQ,HZk,HR,HH,HK⟩:=hrel
  clear HL0 HQ0 HR6 HH6 HKk0
  have hTw:=(HK.out.block tb (Array.getElem?_eq_some_iff.1 HT6.out).1 ⟨HTG.out,by omega⟩).trans HT6.out
  by_cases hlt:k<m
  ·have t1:decide ((k:Int)<(m:Int))=true:=by simp;omega
   have f0:wr.cell? ⟨tb,0,none⟩=some (.pointer (some ⟨g,0,none⟩)):=by rw [cell_of_row wr tb 0 _ _ _ hTw];rfl
   have hris:=ZuM B g lk ok A 1048576 wr HR.out hB hA0 (by omega) (by omega) (by omega)
   rw [show (1048576:Int) - 1 - A=1048575 - A by omega] at hris
   have hst:=Zsg HQ.out hlt
   rw [HL.out] at hst
   have hbd:=(Zo5 0 (1048575 - A) lk ok).1
   obtain ⟨⟨x2,l3,o3⟩,hR2⟩:∃ R,Zo4 0 (1048575 - A) lk ok=R:=⟨_,rfl⟩
   rw [hR2] at hris hst hbd
   dsimp only at hris hst hbd
   have hA2:A+(x2:Int)+1≤1048576+(k+1:Nat):=by omega
   have hA3:A+(x2:Int)≤3000000:=by omega
   have HRIS:=Lib.hid hris
   have HST:=Lib.hid hst
   have HQL2:=Lib.hid HQ.out.1
   clear hris hst hbd hR2 hTw
   go_wp2_with fail
   refine HRIS.out.mono ?_
   rintro e w7 ⟨rfl,hR7,hK7⟩
   have hH7:=HH.out.keep hK7 (show P≠g by omega)
   obtain ⟨⟨u0,c0⟩,c1⟩:=hH7.cell hlt
   have hH8:=hH7.next (by rw [HQL2.out];exact hlt) (A+(x2:Int))
   rw [HQL2.out] at hH8
   have hk8:Kep (fun b=>b≠P) w7 (w7.setCell ⟨P,k,none⟩ (.int .i64 (A+(x2:Int)))):=ZmZ (by simp) _
   have hR8:=hR7.keep hk8 (show g≠P by omega) (fun j hj=>by omega) (by have:=hR7.lt;omega)
   have c2:(w7.setCell ⟨P,k,none⟩ (.int .i64 (A+(x2:Int)))).cell? ⟨P,k,none⟩=some (.int .i64 (A+(x2:Int))):=ZaU.get (e:=3) hH8 (by rw [List.getElem?_append_right (by rw [HQL2.out];omega),HQL2.out,Nat.sub_self];rfl)
   have hK8:=(HK.out.trans (hK7.mono (T:=fun b=>b≠g∧b≠P) (fun j hj=>hj.1))).trans (hk8.mono (T:=fun b=>b≠g∧b≠P) (fun j hj=>hj.2))
   have HH8:=Lib.hid hH8
   have HR8:=Lib.hid hR8
   have HK8:=Lib.hid hK8
   have HL8:Hid (Zm6 0 (qs++[A+(x2:Int)])=A+(x2:Int)+1):=Lib.hid (Zm8 _ _ _)
   clear hR7 hK7 hH7 hH8 hk8 hR8 hK8 HRIS HL HQ HR HH HK f0
   go_wp2_with fail
   go_roundw
   case rel=>exact ⟨k+1,A+(x2:Int)+1,_,_,_,by omega,by go_num,rfl,by omega,hA2,HL8,HST,Lib.hid (fun e=>by omega),HR8,HH8,HK8⟩
   case measure=>simp [intOf];omega
  ·obtain rfl:k=m:=by omega
   have t1:decide ((k:Int)<(k:Int))=false:=by simp
   have hBw:=(HK.out.block w.heap.size (Array.getElem?_eq_some_iff.1 HB6.out).1 ⟨by have:=HGL.out;omega,by omega⟩).trans HB6.out
   have hQw:=(HK.out.block q (Array.getElem?_eq_some_iff.1 HQ6.out).1 ⟨HQG.out,by omega⟩).trans HQ6.out
   have b0:wr.cell? ⟨w.heap.size,0,none⟩=some (.int .i64 0):=by rw [cell_of_row wr _ 0 _ _ _ hBw];rfl
   have b1:wr.cell? ⟨w.heap.size,1,none⟩=some (.slice none 0 0):=by rw [cell_of_row wr _ 1 _ _ _ hBw];rfl
   have b2:wr.frozen? ⟨w.heap.size,0,none⟩=false:=frozen_of_row wr _ 0 _ _ hBw
   have b3:wr.frozen? ⟨w.heap.size,1,none⟩=false:=frozen_of_row wr _ 1 _ _ hBw
   have n1:=heap_setCell_same wr w.heap.size 0 _ _ (.int .i64 d) hBw
   have b4:(wr.setCell ⟨w.heap.size,0,none⟩ (.int .i64 d)).cell? ⟨w.heap.size,1,none⟩=some (.slice none 0 0):=by rw [cell_of_row _ _ 1 _ _ _ n1];rfl
   have b5:(wr.setCell ⟨w.heap.size,0,none⟩ (.int .i64 d)).frozen? ⟨w.heap.size,1,none⟩=false:=frozen_of_row _ _ 1 _ _ n1
   have n2:=heap_setCell_same _ w.heap.size 1 _ _ (.slice (some ⟨P,0,none⟩) k k) n1
   have hk9:Kep (fun b=>b≠w.heap.size) wr ((wr.setCell ⟨w.heap.size,0,none⟩ (.int .i64 d)).setCell ⟨w.heap.size,1,none⟩ (.slice (some ⟨P,0,none⟩) k k)):=(ZmZ (by simp) _).trans (ZmZ (by simp) _)
   have hR9:=HR.out.keep hk9 (by have:=HGL.out;omega) (fun j hj=>by have:=HGL.out;omega) (by have:=HR.out.lt;omega)
   have hQ9:=(hk9.block q (Array.getElem?_eq_some_iff.1 hQw).1 (by have:=HQL.out;omega)).trans hQw
   have hH9:=HH.out.keep hk9 (show P≠w.heap.size by omega)
   have hO9:=hH9.own HQ.out.1 (by unfold maxLen;omega) (B:=w.heap.size) (by omega)
   have hp:=ZrR HQ.out HD0.out HDM.out HZk.out
   have HN2:=Lib.hid n2
   have HR9:=Lib.hid hR9
   have HQ9:=Lib.hid hQ9
   have HO9:=Lib.hid hO9
   have HP:=Lib.hid hp
   have HK9:Hid (Kep (fun b=>b≠g∧b≠q) w ((wr.setCell ⟨w.heap.size,0,none⟩ (.int .i64 d)).setCell ⟨w.heap.size,1,none⟩ (.slice (some ⟨P,0,none⟩) k k))):=Lib.hid (by
    have h1:=(ZmT (fun b=>b≠g∧b≠q) HAL.out).trans HK16.out
    have h2:=h1.andThen HK.out (fun j hj hs=>⟨hs.1,by omega⟩)
    exact h2.andThen hk9 (fun j hj _=>by omega))
   clear hBw hQw n1 n2 hk9 hR9 hQ9 hH9 hO9 hp HQ HR HH HK HL
   go_wp2_with fail
   refine bodyPost_ret (v:=.agg #[.int .i64 d,.slice (some ⟨P,0,none⟩) k k]) (results_cell_row rfl _ _ w.heap.size 125 _ (0,0) _ rfl HN2.out Tryz.underlying125 rfl Zl8) rfl ⟨d,qs,lk,ok,_,rfl,HP.out,HR9.out,HQ9.out,HO9.out,HK9.out⟩
end Go.Proofs.YtdijhifdjbnkfaaGreat.PW
namespace Go.Proofs.YtdijhifdjbnkfaaGreat.PW
open Go.RowKit MM PM VM
theorem ZlH (w:World) (a b:Obj):((w.alloc a).alloc b).heap[w.heap.size]? = some a∧((w.alloc a).alloc b).heap[w.heap.size+1]? = some b:=by
 have h1:(w.alloc a).heap[w.heap.size]? = some a:=heap_alloc_new w a
 have h2:=heap_alloc_new (w.alloc a) b
 have hs:(w.alloc a).heap.size=w.heap.size+1:=by simp
 rw [hs] at h2
 exact ⟨(((Below.refl _ (w.alloc a)).alloc (Nat.le_refl _) b).block w.heap.size (by omega)).trans h1,h2⟩
theorem ZrE (g:Nat) (w:World):Calls Tryz.prog 170 #[.pointer (some ⟨g,0,none⟩)] w fun e w'=>e=.returned (.func (.func 213) #[] #[.pointer (some ⟨w.heap.size,0,none⟩),.pointer (some ⟨w.heap.size+1,0,none⟩)]) ∧
  w'.heap[w.heap.size]? = some (.cells #[.pointer (some ⟨g,0,none⟩)] 287 (0,0))∧w'.heap[w.heap.size+1]? = some (.cells #[.int .i64 0] 3 (0,0))∧Below w.heap.size w w':=by
 have hmf:∀ (fn:Fn) (first cap:Array Value) (w:World),(Instr.makeFunc fn first cap).run Tryz.prog w=.ok (.func fn first cap) w:=fun _ _ _ _=>rfl
 have h2:=ZlH w (.cells #[.pointer (some ⟨g,0,none⟩)] 287) (.cells #[.int .i64 0] 3)
 have hb:Below w.heap.size w ((w.alloc (.cells #[.pointer (some ⟨g,0,none⟩)] 287)).alloc (.cells #[.int .i64 0] 3)):=((Below.refl _ _).alloc (Nat.le_refl _) _).alloc (by simp) _
 have H2:=Lib.hid h2
 have HB:=Lib.hid hb
 clear h2 hb
 go_enter Tryz.func170,Tryz.ntmps170
 go_wp2_with fail
 go_ret
 exact ⟨rfl,H2.out.1,H2.out.2,HB.out⟩
theorem ZaS.prow {S:Nat→Prop} {w:World} {g n:Nat} {xs:List (Int×Value)} {ps:List Post} (h:ZaS w g n xs) (hn:xs.length=n) (hm:n≤maxLen) (hx:Za2 S w xs ps):PRow w (.slice (some ⟨g,0,none⟩) n n) ps:=by
 obtain ⟨h2,h3,h4⟩:=h
 have e:=hx.1
 refine ⟨some ⟨g,0,none⟩,n,xs,by rw [← e,hn],by omega,hm,(fun h=>by cases h),hx.keep (Kep.refl _ _) (fun _ _ _=>trivial),.inr ⟨g,0,rfl,h2,trivial,fun i hi => ?_⟩⟩
 have hget:=Zsw xs i hi
 have k1:=h4 _ _ hget.1
 have k2:=h4 _ _ hget.2
 rw [← Nat.add_assoc] at k2
 exact ⟨k1,k2⟩
theorem ZaS.get {w:World} {g n:Nat} {xs:List (Int×Value)} {ps:List Post} {S:Nat→Prop} (h:ZaS w g n xs) (hx:Za2 S w xs ps) {k:Nat} (hk:k<ps.length):w.cell? ⟨g,k*2,none⟩=some (.int .i64 ps[k].1):=by
 obtain ⟨h2,h3,h4⟩:=h
 have e:=hx.1
 have hget:=Zsw xs k (by omega)
 have:=h4 _ _ hget.1
 rw [Nat.zero_add] at this
 rw [this,(hx.2 k (by omega) hk).1]
def decR (r:Option (List Post)):List Post×Int:=match r with
 | some ps=>(ps,0)
 | none=>([],80)
def Zau (r:List Post×Int) (w:World) (e:Ending) (w':World):Prop:=∃ v,e=.returned (.tuple #[v,.int .i64 r.2])∧PRow w' v r.1∧Below w.heap.size w w'
theorem Zng {ps:List Post} {k:Nat} (hk:ps.length=k+1):ZoH 0 ps=(ps[k]'(by omega)).1+1:=by
 have e:ps=ps.take k++[ps[k]'(by omega)]:=by
  rw [← List.take_succ_eq_append_getElem (by omega),List.take_of_length_le (by omega)]
 conv=>lhs;rw [e]
 exact ZoM _ _
theorem Zgj (v:Value) (b:List UInt8) (w:World) (hr:BRow w v b) (hb:b.length≤1000000000):Calls Tryz.prog 112 #[v] w (Zau (decR (decO b)) w):=by
 obtain ⟨i0,hi,hz0,hz1,hz2⟩:=info_parts Zl7
 have hbl:b.length<4611686018427387904:=by omega
 have HNO:Hid (Za5 b→decR (decO b)=([],80)):=Lib.hid (fun h=>by rw [Zf8 h];rfl)
 have HYES:Hid (∀ ps,Dec b ps→decR (decO b)=(ps,0)):=Lib.hid (fun ps h=>by rw [Zf9 hbl h];rfl)
 obtain ⟨RES,hRES⟩:∃ R,decR (decO b)=R:=⟨_,rfl⟩
 rw [hRES] at HNO HYES ⊢
 obtain ⟨r,hnum⟩:∃ r,Zo4 0 (min 65536 ((b.length / 3:Nat):Int)) b false=r:=⟨_,rfl⟩
 have hbeg:=ZlP hbl r hnum
 obtain ⟨p,cap,rfl,hlc,hcm⟩:=BIn.shape hr
 unfold maxLen at hcm
 have hal:Below w.heap.size w (w.alloc (.cells #[.slice p b.length cap,.bool false] 247)):=(Below.refl _ _).alloc (Nat.le_refl _) _
 have hrd:Rd w.heap.size (w.alloc (.cells #[.slice p b.length cap,.bool false] 247)) w.heap.size b false:=⟨_,heap_alloc_new _ _,BIn.below hr hal⟩
 have hs1:(w.alloc (.cells #[.slice p b.length cap,.bool false] 247)).heap.size=w.heap.size+1:=by simp
 obtain ⟨nb,hnb⟩:∃ n,b.length=n:=⟨_,rfl⟩
 have HNB:=Lib.hid hnb
 rw [hnb] at hal hrd hs1 hnum hb hlc ⊢
 obtain ⟨W1,hW1⟩:∃ W,w.alloc (.cells #[.slice p nb cap,.bool false] 247)=W:=⟨_,rfl⟩
 rw [hW1] at hal hrd hs1
 have hN:=Zpj w.heap.size w.heap.size b false 0 (min 65536 ((nb / 3:Nat):Int)) W1 hrd (Nat.le_refl _) (by omega) (by omega)
 rw [hnum] at hN
 obtain ⟨n,l1,o1⟩:=r
 unfold Za6 at hN
 dsimp only at hN hbeg
 obtain ⟨hh0,hn,hl1,hor⟩:=hbeg
 obtain ⟨n3,hn3⟩:∃ k:Nat,nb / 3=k:=⟨_,rfl⟩
 rw [hn3] at hN
 have hd3:(nb:Int) / 3=(n3:Int):=by omega
 have hd4:Int.tdiv (nb:Int) 3=(n3:Int):=by rw [Int.tdiv_eq_ediv_of_nonneg (by omega)];exact hd3
 have hmin:(if (n3:Int)<65536 then (n3:Int) else 65536)=min 65536 (n3:Int):=by split<;>omega
 have hmin2:(if 65536<(n3:Int) then 65536 else (n3:Int))=min 65536 (n3:Int):=by split<;>omega
 obtain ⟨MN,hMN⟩:∃ M,min 65536 (n3:Int)=M:=⟨_,rfl⟩
 rw [hMN] at hN hmin hmin2
 have HN:=Lib.hid hN
 have HAL:=Lib.hid hal
 have HH0:=Lib.hid hh0
 have HOR:=Lib.hid hor
 have HS1:=Lib.hid hs1
 have HBL:=Lib.hid hbl
 have HW1:=Lib.hid hW1
 clear hN hal hrd hh0 hor hs1 hRES hnum hr hnb hbl hn3 hW1
 go_enter Tryz.func112,Tryz.ntmps112
 go_wp2_with fail
 rw [HW1.out]
 refine HN.out.mono ?_
 rintro e w2 ⟨rfl,hR2,hK2⟩
 have hs2:w.heap.size<w2.heap.size:=by have:=HS1.out;have:=hK2.size;omega
 have hlow2:Below w.heap.size w w2:=HAL.out.trans (hK2.below (by have:=HS1.out;omega) (fun k hk=>by omega))
 have HR2:=Lib.hid hR2
 have HLOW2:=Lib.hid hlow2
 clear hR2 hK2 hlow2 HN HAL HW1 hmin hmin2 hMN hd3 hd4
 go_wp2_with (at_make;refine wpList_make_full w2 rfl _ _ 47 rfl w2.heap.size 125 i0 (.agg #[.int .i64 0,.slice none 0 0]) 2 Tryz.underlying47 hi hz0 hz1 .i64 .i64 _ _ n rfl rfl rfl rfl (by rw [hz2];omega) (by unfold maxLen;omega) (Nat.le_refl _) ?_)
 intro w3 hown3 hg3
 have hb3:=(Below.refl w2.heap.size w2).grown hg3 (Nat.le_refl _) (fun k h=>by cases h)
 have hP3:ZaS w3 w2.heap.size n []:=Zk1 hown3
 have hR3:=HR2.out.keep (ZmT (fun _=>True) hb3) trivial (fun _ _=>trivial) (by omega)
 have HP3:=Lib.hid hP3
 have HR3:=Lib.hid hR3
 have HLOW3:=Lib.hid (HLOW2.out.trans (hb3.mono (by omega)))
 have hs3:w2.heap.size<w3.heap.size:=hP3.1
 obtain ⟨L,hL⟩:∃ L,w2.heap.size=L:=⟨_,rfl⟩
 rw [hL] at hs2 HP3 hs3 ⊢
 clear hown3 hg3 hb3 hP3 hR3 HR2 HLOW2 hi hz0 hz1 hz2 hL
 have HBk:=Lib.hid (Zdu L 0 n n (some ⟨L,0,none⟩) w3 (fun _=>rfl) (Nat.le_refl _) (by unfold maxLen;omega) (by omega))
 go_wp2_with fail
 refine HBk.out.mono ?_
 rintro e w4 ⟨vk,rfl,ho4,hb4⟩
 obtain ⟨pk,ck,rfl,hk1,hk2⟩:=ho4.shape
 rw [Zdk] at hk1 ho4 ⊢
 have hR4:=HR3.out.keep (ZmT (fun _=>True) hb4) trivial (fun _ _=>trivial) (by omega)
 have HP4:=Lib.hid (HP3.out.keep (ZmT (fun _=>True) hb4) trivial)
 have HO4:=Lib.hid ho4
 have HLOW4:=Lib.hid (HLOW3.out.trans (hb4.mono (by omega)))
 have hs4:=hb4.size
 have hok4:∀ g,(Value.slice pk (cnt n) ck).ownBlock=some g→g<w4.heap.size:=fun g hg=>(World.ownsRow.lt ho4 g hg).2
 have HHD:=Lib.hid (Zlv w.heap.size w.heap.size b l1 n false o1 w4 hR4 (Nat.le_refl _) HBL.out (by omega) HH0.out)
 clear ho4 hb4 hR4 HP3 HR3 HLOW3 HBk hk1 hk2
 go_wp2_with fail
 refine HHD.out.mono ?_
 rintro e w5 ⟨hs,l0,o0,H,rfl,hH,hZ5,hst5,hod5,hR5,hK5⟩
 have HP5:=Lib.hid (HP4.out.keep hK5 (show L≠w.heap.size by omega))
 have HO5:Hid (OwnV w3.heap.size w5 (.slice pk (cnt n) ck) (Zdi L 0 n n (cnt n))):=Lib.hid (by
  have h:=HO4.out
  refine ⟨h.1,?_⟩
  rcases h.2 with h0 | ⟨g,cap',cur,hv,hg,hh,rest⟩
  ·exact .inl h0
  ·exact .inr ⟨g,cap',cur,hv,hg,by rw [hK5.block g (Array.getElem?_eq_some_iff.1 hh).1 (by omega)];exact hh,rest⟩)
 have hs5:=hK5.size
 have HLOW5:=Lib.hid (HLOW4.out.trans (hK5.below (by omega) (fun k hk=>by omega)))
 have HZ5:=Lib.hid hZ5
 have HST5:=Lib.hid hst5
 have HOD5:=Lib.hid hod5
 have HR5:=Lib.hid hR5
 have hH5:=hZ5.1
 clear hK5 HO4 HP4 HLOW4 HHD hZ5 hst5 hR5
 go_wp2_with fail
 refine (ZrE _ w5).mono ?_
 rintro e w6 ⟨rfl,hT6,hQ6,hb6⟩
 have HT6:=Lib.hid hT6
 have HQ6:=Lib.hid hQ6
 have HP6:=Lib.hid (HP5.out.keep (ZmT (fun _=>True) hb6) trivial)
 have HZ6:=Lib.hid (HZ5.out.keep (ZmT (fun _=>True) hb6) trivial)
 have HO6:Hid (OwnV w3.heap.size w6 (.slice pk (cnt n) ck) (Zdi L 0 n n (cnt n))):=Lib.hid (Zqe (B:=0) HO5.out hb6)
 have HR6:=Lib.hid (HR5.out.keep (ZmT (fun _=>True) hb6) trivial (fun _ _=>trivial) (by omega))
 have HLOW6:=Lib.hid (HLOW5.out.trans (hb6.mono (by omega)))
 obtain ⟨tb,htb⟩:∃ t,w5.heap.size=t:=⟨_,rfl⟩
 have hs6:tb+1<w6.heap.size:=by rw [← htb];exact (Array.getElem?_eq_some_iff.1 hQ6).1
 rw [htb] at HT6 HQ6 hs5 hH5 ⊢
 obtain ⟨q,hq⟩:∃ q,tb+1=q:=⟨_,rfl⟩
 rw [hq] at HQ6 hs6 ⊢
 have hqtb:tb<q:=by omega
 clear hT6 hQ6 hb6 HP5 HO5 HZ5 HR5 HLOW5 htb hq
 have hLt:L<tb:=by omega
 have HM0:Hid (Za2 (fun c=>c≠L∧c≠w.heap.size∧c≠q) w6 [] []):=Lib.hid ⟨rfl,fun i h=>by simp at h⟩
 have HD0:Hid (DSt b n o0 l0 (min n (32*0)) [] l0 o0):=Lib.hid (by rw [Nat.mul_zero,Nat.min_zero];exact ZgM HST5.out)
 have HQ0:Hid (w6.heap[q]? = some (.cells #[.int .i64 (ZoH 0 [])] 3 (0,0))):=HQ6
 have HK0:Hid (Kep (fun c=>c≠w.heap.size∧c≠q∧c≠L) w6 w6):=Lib.hid (Kep.refl _ _)
 have HHO0:Hid (o0=false→HOk hs [] 0):=Lib.hid (fun _ k hk=>by omega)
 have HLB:Hid (l0.length≤1000000000):=Lib.hid (by have h1:=ZlQ HST5.out;have:=HNB.out;omega)
 have HTL:=Lib.hid (Array.getElem?_eq_some_iff.1 HT6.out).1
 have hHt:H<w6.heap.size:=by omega
 have hcn:cnt n≤65536:=by unfold cnt;omega
 clear hl1
 go_wp2_with fail
 go_loopw [29] (fun iv wr=>∃ (i:Nat) (xs:List (Int×Value)) (ps:List Post) (l:List UInt8) (o:Bool),i≤cnt n∧iv=.int .i64 i∧Hid (DSt b n o0 l0 (min n (32*i)) ps l o)∧Hid (Rd w.heap.size wr w.heap.size l o)∧Hid (wr.heap[q]? = some (.cells #[.int .i64 (ZoH 0 ps)] 3 (0,0)))∧Hid (ZaS wr L n xs)∧Hid (Za2 (fun c=>c≠L∧c≠w.heap.size∧c≠q) wr xs ps)∧Hid (Kep (fun c=>c≠w.heap.size∧c≠q∧c≠L) w6 wr)∧Hid (o=false→HOk hs ps i)) (fun iv _=>cnt n - (intOf iv).toNat)
 case atStart=>exact ⟨0,[],[],l0,o0,by omega,rfl,HD0,HR6,HQ0,HP6,HM0,HK0,HHO0⟩
 case round =>
  obtain ⟨i,xs,ps,l,o,hi,rfl,HD,HR,HQ,HP,HM,HK,HHO⟩:=hrel
  clear HD0 HR6 HQ0 HP6 HM0 HK0 HHO0 HQ6
  have hgq:w.heap.size≠q:=by omega
  have hgL:w.heap.size≠L:=by omega
  by_cases hlt:i<cnt n
  ·have t1:decide ((i:Int)<(cnt n:Int))=true:=by simp;omega
   obtain ⟨gk,rfl,hg0,hg1,hcell,_⟩:=HO6.out.at_ (Zdj L 0 n n (cnt n) i hlt)
   have hSk:gk≠w.heap.size∧gk≠q∧gk≠L:=⟨by omega,fun e=>by have:=hok4 gk rfl;omega,by omega⟩
   have hcell2:=(HK.out.cell hg1 hSk i).trans hcell
   unfold blkV at hcell2
   rw [Nat.zero_add] at hcell2
   obtain ⟨mb,hmb⟩:∃ m,min 32 (n - 32*i)=m:=⟨_,rfl⟩
   obtain ⟨cc,hcc⟩:∃ c,n - 32*i=c:=⟨_,rfl⟩
   rw [hmb,hcc] at hcell2
   have hin:32*i<n:=by unfold cnt at hlt;omega
   have hm0:0<mb:=by omega
   have hmn:32*i+mb≤n:=by omega
   have hmc:mb≤cc:=by omega
   have hmj:32*i+mb=min n (32*(i+1)):=by omega
   have hist:=ZmM HD.out hlt HHO.out
   obtain ⟨v0,hv0,hvb⟩:=HR.out
   have f0:wr.cell? ⟨w.heap.size,0,none⟩=some v0:=by rw [cell_of_row wr _ 0 _ _ _ hv0];rfl
   obtain ⟨pv,cv,rfl,_,_⟩:=hvb.shape
   obtain ⟨S0,hS0⟩:∃ S,l.length=S:=⟨_,rfl⟩
   rw [hS0] at hist f0
   have hS0b:S0≤1000000000:=by have h1:=ZgL HD.out;have:=HLB.out;omega
   have HI0:Hid (ISt b n o0 l0 hs i S0 0 ps l o):=Lib.hid hist
   have HMJ:=Lib.hid hmj
   clear hist hv0 hvb hcell hcc hmb hmj HD HHO hS0
   go_wp2_with fail
   go_loopw [39] (fun jv wr=>∃ (j:Nat) (xs:List (Int×Value)) (ps:List Post) (l:List UInt8) (o:Bool),j≤mb∧jv=.int .i64 j∧Hid (ISt b n o0 l0 hs i S0 j ps l o)∧Hid (Rd w.heap.size wr w.heap.size l o)∧Hid (wr.heap[q]? = some (.cells #[.int .i64 (ZoH 0 ps)] 3 (0,0)))∧Hid (ZaS wr L n xs)∧Hid (Za2 (fun c=>c≠L∧c≠w.heap.size∧c≠q) wr xs ps)∧Hid (Kep (fun c=>c≠w.heap.size∧c≠q∧c≠L) w6 wr)) (fun jv _=>mb - (intOf jv).toNat)
   case atStart=>exact ⟨0,xs,ps,l,o,by omega,rfl,HI0,HR,HQ,HP,HM,HK⟩
   case round =>
    obtain ⟨j,xs,ps,l,o,hj,rfl,HI,HR,HQ,HP,HM,HK⟩:=hrel
    clear HI0
    by_cases hjl:j<mb
    ·have t2:decide ((j:Int)<(mb:Int))=true:=by simp;omega
     have hpl:=HI.out.1.2.1
     have hxl:xs.length=32*i+j:=by rw [HM.out.1];exact hpl
     have hn0:=HI.out.1.2.2.1
     have hn1:=HI.out.1.2.2.2.1
     have hlen:=ZgL HI.out.1
     have hTw:=(HK.out.block tb HTL.out ⟨by omega,by omega,by omega⟩).trans HT6.out
     have hnx:=ZoN w.heap.size w.heap.size tb q l o (ZoH 0 ps) wr HR.out (Nat.le_refl _) hTw (by omega) HQ.out (by omega) (by omega) (by omega) hn0 (by omega) (by have:=HLB.out;omega)
     have HNX:=Lib.hid hnx
     have HXL:=Lib.hid hxl
     clear hnx hxl hpl hn0 hn1 hlen hTw hcell2 f0
     go_wp2_with fail
     refine HNX.out.mono ?_
     rintro e w8 ⟨d,qs,l',o',pv8,rfl,hps,hR8,hQ8,hO8,hK8⟩
     have hist:=ZmN HI.out (by omega) hps
     have hP8:=HP.out.keep hK8 (show L≠w.heap.size∧L≠q from ⟨by omega,by omega⟩)
     have hxn:xs.length<n:=by rw [HXL.out];omega
     have hP9:=hP8.next hxn d pv8
     rw [HXL.out] at hP9
     obtain ⟨pp,cp,rfl,_,_⟩:=(OwnI.irow hO8).shape
     have hk9:Kep (fun c=>c≠L) w8 (w8.setCells L ((32*i+j)*2) [.int .i64 d,.slice pp qs.length cp]):=ZmU (by simp) _ _
     have hIo:IOn (fun c=>c≠L∧c≠w.heap.size∧c≠q) w8 (.slice pp qs.length cp) qs:=by
      rcases hO8.2 with ⟨hv,h0⟩ | ⟨g8,cap8,cur8,hv,hg8,_⟩
      ·have:qs=[]:=List.eq_nil_of_length_eq_zero h0
       subst this
       rw [hv]
       exact IOn.nil_ _ _
      ·have hion:=OwnI.ion hO8
       obtain ⟨p',c',hv',i1,i2,i3,i4⟩:=hion
       refine ⟨p',c',hv',i1,i2,i3,?_⟩
       rcases i4 with i4 | ⟨b',off',hp',hb',_,hc'⟩
       ·exact .inl i4
       ·refine .inr ⟨b',off',hp',hb',?_,hc'⟩
        rw [hv] at hv'
        simp only [Value.slice.injEq] at hv'
        obtain ⟨e1,_,_⟩:=hv'
        rw [hp'] at e1
        simp only [Option.some.injEq,Addr.mk.injEq] at e1
        have hwr:=HP.out.1
        have hqr:=(Array.getElem?_eq_some_iff.1 HQ.out).1
        have hgr:=HR.out.lt
        rw [← e1.1]
        exact ⟨by omega,by omega,by omega⟩
     have hM8:=(HM.out.keep (T:=fun c=>c≠L∧c≠w.heap.size∧c≠q) (hK8.mono (fun c hc=>⟨hc.2.1,hc.2.2⟩)) (fun _ _ h=>h)).snoc (z:=d) hIo
     have hM9:=hM8.keep (T:=fun c=>c≠L∧c≠w.heap.size∧c≠q) (hk9.mono (fun c hc=>hc.1)) (fun _ _ h=>h)
     have hQ9:=(hk9.block q (Array.getElem?_eq_some_iff.1 hQ8).1 (by omega)).trans hQ8
     have hR9:=hR8.keep hk9 (show w.heap.size≠L by omega) (fun k hk=>by omega) (by have:=hR8.lt;omega)
     have hK9:=(HK.out.trans (hK8.mono (T:=fun c=>c≠w.heap.size∧c≠q∧c≠L) (fun c hc=>⟨hc.1,hc.2.1⟩))).trans (hk9.mono (T:=fun c=>c≠w.heap.size∧c≠q∧c≠L) (fun c hc=>hc.2.2))
     have hth:=hP8.2.1
     obtain ⟨u0,c0⟩:=Option.isSome_iff_exists.1 (hth ((32*i+j)*2) (by omega)).1
     have c1:=(hth ((32*i+j)*2) (by omega)).2
     have hth2:=World.there_setCells hth L ((32*i+j)*2) [.int .i64 d]
     obtain ⟨u1,c2⟩:=Option.isSome_iff_exists.1 (hth2 ((32*i+j)*2+1) (by omega)).1
     have c3:=(hth2 ((32*i+j)*2+1) (by omega)).2
     have e2:w8.setCells L ((32*i+j)*2) [.int .i64 d]=w8.setCell ⟨L,(32*i+j)*2,none⟩ (.int .i64 d):=rfl
     have e3:w8.setCells L ((32*i+j)*2) [.int .i64 d,.slice pp qs.length cp]=(w8.setCell ⟨L,(32*i+j)*2,none⟩ (.int .i64 d)).setCell ⟨L,(32*i+j)*2+1,none⟩ (.slice pp qs.length cp):=rfl
     rw [e2] at c2 c3
     rw [e3] at hP9 hM9 hQ9 hR9 hK9
     rw [Nat.zero_add] at c0 c1 c2 c3
     have e4:(32*i+j)*2=64*i+j*2:=by omega
     rw [e4] at c0 c1 c2 c3 hP9 hM9 hQ9 hR9 hK9
     have hQ10:((w8.setCell ⟨L,64*i+j*2,none⟩ (.int .i64 d)).setCell ⟨L,64*i+j*2+1,none⟩ (.slice pp qs.length cp)).heap[q]? = some (.cells #[.int .i64 (ZoH 0 (ps++[(d,qs)]))] 3 (0,0)):=by rw [ZoM];exact hQ9
     have HP9:=Lib.hid hP9
     have HM9:=Lib.hid hM9
     have HQ9:=Lib.hid hQ10
     have HR9:=Lib.hid hR9
     have HK9:=Lib.hid hK9
     have HI9:=Lib.hid hist
     generalize qs.length=nqs at *
     clear hps hR8 hQ8 hO8 hK8 hist hP8 hP9 hk9 hIo hM8 hM9 hQ9 hQ10 hR9 hK9 hth hth2 e2 e3 e4 HI HR HQ HP HM HK HNX
     go_wp2_with fail
     go_roundw
     case rel=>exact ⟨j+1,_,_,_,_,by omega,by go_num,HI9,HR9,HQ9,HP9,HM9,HK9⟩
     case measure=>simp [intOf];omega
    ·obtain rfl:j=mb:=by omega
     have t2:decide ((j:Int)<(j:Int))=false:=by simp
     have hHS:=HST5.out
     obtain ⟨⟨x,y⟩,hx⟩:∃ h,hs[i]? = some h:=⟨_,List.getElem?_eq_getElem (by rw [hHS.1];exact hlt)⟩
     obtain ⟨k1,k2⟩:=ZiT hs i x y hx
     have hZw:=HZ6.out.keep HK.out ⟨by omega,by omega,by omega⟩
     have z0:=hZw.get k1
     have z1:=hZw.get k2
     obtain ⟨m1,hm1⟩:∃ m,j=m+1:=⟨j - 1,by omega⟩
     have hpl:=HI.out.1.2.1
     have hpk:ps.length=(32*i+m1)+1:=by omega
     have hld:=Zng hpk
     have c0:=HP.out.get HM.out (show 32*i+m1<ps.length by omega)
     obtain ⟨d,hd⟩:∃ d,(ps[32*i+m1]'(by omega)).1=d:=⟨_,rfl⟩
     rw [hd] at hld c0
     rw [show (32*i+m1)*2=64*i+m1*2 by omega] at c0
     have key:=ZmL HI.out hHS hlt HMJ.out hx hld
     obtain ⟨v0,hv0,hvb⟩:=HR.out
     have f1:wr.cell? ⟨w.heap.size,0,none⟩=some v0:=by rw [cell_of_row wr _ 0 _ _ _ hv0];rfl
     obtain ⟨pv2,cv2,rfl,_,_⟩:=hvb.shape
     have hlen:=ZgL HI.out.1
     have hlb:=HLB.out
     have e1:(j:Int) - 1=(m1:Int):=by omega
     have e2:IntKind.i64.wrap (m1:Int)=(m1:Int):=by rw [IntKind.wrap_i64];omega
     have hmj1:m1<j:=by omega
     obtain ⟨ln,hln⟩:∃ n,l.length=n:=⟨_,rfl⟩
     rw [hln] at key f1 hlen
     have e3:IntKind.i64.wrap ((S0:Int) - (ln:Int))=(S0:Int) - (ln:Int):=by rw [IntKind.wrap_i64];omega
     by_cases hm:(x:Int)=d∧(y:Int)=(S0:Int) - (ln:Int)
     ·obtain ⟨hD2,hH2⟩:=key.1 hm
      have q1:((x:Int) == d)=true:=by rw [beq_iff_eq];exact hm.1
      have q2:((y:Int) == (S0:Int) - (ln:Int))=true:=by rw [beq_iff_eq];exact hm.2
      have HD2:=Lib.hid hD2
      have HH2:=Lib.hid hH2
      clear hm key hD2 hH2 hv0 hvb hHS hx k1 k2 hZw hpl hpk hld hd hm1 hln HI hlen hcell2 f0
      go_wp2_with fail
      go_quiet (fail)
      go_wp2_with fail
      go_roundw
      case rel=>exact ⟨i+1,xs,ps,l,o,by omega,by go_num,HD2,Lib.hid HR.out,Lib.hid HQ.out,Lib.hid HP.out,Lib.hid HM.out,Lib.hid (HK.out.drewN _),HH2⟩
      case measure=>simp [intOf];omega
     ·have hn2:=HNO.out (key.2 hm)
      have HN:=Lib.hid hn2
      have HLOWr:=Lib.hid (HLOW6.out.trans (HK.out.below (by have:=HLOW6.out.size;omega) (fun k hk=>⟨by omega,by omega,by omega⟩)))
      by_cases hx1:(x:Int)=d
      ·have q1:((x:Int) == d)=true:=by rw [beq_iff_eq];exact hx1
       have q2:((y:Int) == (S0:Int) - (ln:Int))=false:=by rw [beq_eq_false_iff_ne];exact fun e=>hm ⟨hx1,e⟩
       clear hm key hv0 hvb hHS hx k1 k2 hZw hpl hpk hld hd hm1 hln HI hlen hcell2 f0 hn2 hx1
       go_wp2_with fail
       go_quiet (fail)
       go_wp2_with fail
       go_ret2
       rw [HN.out]
       exact ⟨_,rfl,POn.nil_ _ _,ZcN HLOWr.out _⟩
      ·have q1:((x:Int) == d)=false:=by rw [beq_eq_false_iff_ne];exact hx1
       clear hm key hv0 hvb hHS hx k1 k2 hZw hpl hpk hld hd hm1 hln HI hlen hcell2 f0 hn2 hx1
       go_wp2_with fail
       go_quiet (fail)
       go_wp2_with fail
       go_ret2
       rw [HN.out]
       exact ⟨_,rfl,POn.nil_ _ _,ZcN HLOWr.out _⟩
  ·obtain rfl:i=cnt n:=by omega
   have t1:decide ((cnt n:Int)<(cnt n:Int))=false:=by simp
   have hD:=HD.out
   rw [show min n (32*cnt n)=n by unfold cnt;omega] at hD
   have HLOWr:=Lib.hid (HLOW6.out.trans (HK.out.below (by have:=HLOW6.out.size;omega) (fun k hk=>⟨by omega,by omega,by omega⟩)))
   obtain ⟨v0,hv0,hvb⟩:=HR.out
   have f0:wr.cell? ⟨w.heap.size,0,none⟩=some v0:=by rw [cell_of_row wr _ 0 _ _ _ hv0];rfl
   have f1:wr.cell? ⟨w.heap.size,1,none⟩=some (.bool o):=by rw [cell_of_row wr _ 1 _ _ _ hv0];rfl
   obtain ⟨pv2,cv2,rfl,_,_⟩:=hvb.shape
   obtain ⟨ln,hln⟩:∃ n,l.length=n:=⟨_,rfl⟩
   rw [hln] at f0
   cases o with
   | true =>
     have HN:=Lib.hid (HNO.out (ZgI hD (.inl rfl)))
     clear hD hv0 hvb hln HD HHO
     go_wp2_with fail
     go_ret2
     rw [HN.out]
     exact ⟨_,rfl,POn.nil_ _ _,HLOWr.out⟩
   | false =>
     by_cases hl0:ln=0
     ·have hlnil:l=[]:=List.eq_nil_of_length_eq_zero (by omega)
      have hok:=HHO.out rfl
      rw [hlnil] at hD
      have hoh:o1=false:=by
       cases ho1:o1 with
       | false=>rfl
       | true =>
         have h0:=hD.1 (HOD5.out ho1)
         cases h0
      have hdec:Dec b ps:=by
       rcases HOR.out with e | e
       ·rw [hoh] at e;cases e
       ·exact ZgJ e HST5.out hD hok
      have HY:=Lib.hid (HYES.out ps hdec)
      have hxn:xs.length=n:=by rw [HM.out.1];exact hD.2.1
      have HPR:=Lib.hid (HP.out.prow hxn (by unfold maxLen;omega) HM.out)
      subst hl0
      clear hD hv0 hvb hln HD HHO hdec hok hlnil
      go_wp2_with fail
      go_ret2
      rw [HY.out]
      exact ⟨_,rfl,HPR.out,HLOWr.out⟩
     ·have HN:=Lib.hid (HNO.out (ZgI hD (.inr (fun e=>hl0 (by rw [← hln,e];rfl)))))
      have s1:decide ((ln:Int)>0)=true:=by rw [decide_eq_true_eq];omega
      have s2:0<ln:=by omega
      clear hD hv0 hvb hln HD HHO hl0
      go_wp2_with fail
      go_ret2
      rw [HN.out]
      exact ⟨_,rfl,POn.nil_ _ _,HLOWr.out⟩
end Go.Proofs.YtdijhifdjbnkfaaGreat.PW
