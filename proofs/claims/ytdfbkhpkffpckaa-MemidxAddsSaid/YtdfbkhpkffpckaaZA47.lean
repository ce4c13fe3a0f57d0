import Derived.Test.YtdfbkhpkffpckaaZA44
import Derived.Test.YtdfbkhpkffpckaaZA19
import Derived.Test.YtdfbkhpkffpckaaZA43
import Derived.Test.YtdfbkhpkffpckaaZA46
set_option maxRecDepth 100000
set_option maxHeartbeats 8000000
set_option linter.unusedVariables false
set_option linter.unusedSimpArgs false
namespace Go.Proofs.Ytdfbkhpkffpckaa.MX
open Go Go.RowKit MM EM SM
open SG (PostD Tab)
open EV (docC IntLeft)
open RM (rowsE)
theorem ix_f0 (a b c d e f g h:Value) (w:World):(Instr.field 106 (.agg #[a,b,c,d,e,f,g,h]) 0).run Try.prog w=.ok (.agg #[a,b,c,d,e,f]) w:=by kernel_rfl
theorem ix_f1 (a b c d e f g h:Value) (w:World):(Instr.field 106 (.agg #[a,b,c,d,e,f,g,h]) 1).run Try.prog w=.ok g w:=by kernel_rfl
theorem ix_f2 (a b c d e f g h:Value) (w:World):(Instr.field 106 (.agg #[a,b,c,d,e,f,g,h]) 2).run Try.prog w=.ok h w:=by kernel_rfl
theorem cn_f0 (a b c d e f:Value) (w:World):(Instr.field 104 (.agg #[a,b,c,d,e,f]) 0).run Try.prog w=.ok a w:=by kernel_rfl
theorem cn_f1 (a b c d e f:Value) (w:World):(Instr.field 104 (.agg #[a,b,c,d,e,f]) 1).run Try.prog w=.ok b w:=by kernel_rfl
def PCell (w:World) (p:Option Addr) (l:List Doc) (dp:Option Addr) (dn dc:Nat) (mp:Option Nat):Prop :=
 (p=none∧l=[]∧dp=none∧dn=0∧dc=0∧mp=none)∨∃ g,p=some ⟨g,0,none⟩∧w.heap[g]? = some (.cells (ixA l (.slice dp dn dc) (.map mp)) 106 (0,0))
section
variable {w : World} {p : Option Addr} {l : List Doc} {dp : Option Addr} {dn dc : Nat} {mp : Option Nat}
theorem ornone_p (h:PCell w p l dp dn dc mp):Calls Try.prog 67 #[.pointer p] w (CellsLeft (ixA l (.slice dp dn dc) (.map mp)) w):=by
 rcases h with ⟨rfl,rfl,rfl,rfl,rfl,rfl⟩ | ⟨g,rfl,h⟩
 ·exact ornone_none w
 ·exact ornone_row _ _ _ _ _ _ dp dn dc mp g w h
theorem len_any (h:PCell w p l dp dn dc mp):Calls Try.prog 50 #[.pointer p] w (IntLeft (l.length:Int) w):=by
 have HO:=Lib.hid (ornone_p h)
 clear h
 go_enter Try.func50,Try.ntmps50
 go_wp2_with fail
 refine HO.out.mono ?_
 rintro e w1 ⟨rfl,hb⟩
 have HB:=Lib.hid hb
 unfold ixA
 have f0:=ix_f0 (.int .i64 (l.length:Int)) (.int .i64 (sizeM l:Int)) (.int .i64 (timesM l).1) (.int .i64 (timesM l).2.1) (.int .i64 (seqsM l).1) (.int .i64 (seqsM l).2) (.slice dp dn dc) (.map mp) w1
 have f1:=cn_f0 (.int .i64 (l.length:Int)) (.int .i64 (sizeM l:Int)) (.int .i64 (timesM l).1) (.int .i64 (timesM l).2.1) (.int .i64 (seqsM l).1) (.int .i64 (seqsM l).2) w1
 clear hb HO
 go_wp2_with fail
 go_ret
 exact ⟨rfl,HB.out⟩
theorem size_any (h:PCell w p l dp dn dc mp):Calls Try.prog 51 #[.pointer p] w (IntLeft (sizeM l:Int) w):=by
 have HO:=Lib.hid (ornone_p h)
 clear h
 go_enter Try.func51,Try.ntmps51
 go_wp2_with fail
 refine HO.out.mono ?_
 rintro e w1 ⟨rfl,hb⟩
 have HB:=Lib.hid hb
 unfold ixA
 have f0:=ix_f0 (.int .i64 (l.length:Int)) (.int .i64 (sizeM l:Int)) (.int .i64 (timesM l).1) (.int .i64 (timesM l).2.1) (.int .i64 (seqsM l).1) (.int .i64 (seqsM l).2) (.slice dp dn dc) (.map mp) w1
 have f1:=cn_f1 (.int .i64 (l.length:Int)) (.int .i64 (sizeM l:Int)) (.int .i64 (timesM l).1) (.int .i64 (timesM l).2.1) (.int .i64 (seqsM l).1) (.int .i64 (seqsM l).2) w1
 clear hb HO
 go_wp2_with fail
 go_ret
 exact ⟨rfl,HB.out⟩
theorem times_told (l:List Doc):(timesM l).2.2=decide (0<(l.length:Int)):=by
 cases l with
 | nil=>rfl
 | cons x r=>simp [timesM]
theorem times_any (h:PCell w p l dp dn dc mp):Calls Try.prog 59 #[.pointer p] w fun e w'=>e=.returned (.tuple #[.int .i64 (timesM l).1,.int .i64 (timesM l).2.1,.bool (timesM l).2.2])∧Below w.heap.size w w':=by
 have HO:=Lib.hid (ornone_p h)
 have HT:=Lib.hid (times_told l)
 clear h
 go_enter Try.func59,Try.ntmps59
 go_wp2_with fail
 refine HO.out.mono ?_
 rintro e w1 ⟨rfl,hb⟩
 unfold ixA
 obtain ⟨N,hN⟩:∃ N:Int,(l.length:Int)=N:=⟨_,rfl⟩
 obtain ⟨a,ha⟩:∃ a,(timesM l).1=a:=⟨_,rfl⟩
 obtain ⟨b,hb2⟩:∃ b,(timesM l).2.1=b:=⟨_,rfl⟩
 rw [hN] at HT
 rw [hN,ha,hb2]
 have HAB:=Lib.hid (And.intro ha hb2)
 have f0:=ix_f0 (.int .i64 N) (.int .i64 (sizeM l:Int)) (.int .i64 a) (.int .i64 b) (.int .i64 (seqsM l).1) (.int .i64 (seqsM l).2) (.slice dp dn dc) (.map mp) w1
 obtain ⟨w2,hw2⟩:∃ w2,w1.alloc (.cells #[.int .i64 N,.int .i64 (sizeM l:Int),.int .i64 a,.int .i64 b,.int .i64 (seqsM l).1,.int .i64 (seqsM l).2] 104)=w2:=⟨_,rfl⟩
 have hh:w2.heap[w1.heap.size]? = some (.cells #[.int .i64 N,.int .i64 (sizeM l:Int),.int .i64 a,.int .i64 b,.int .i64 (seqsM l).1,.int .i64 (seqsM l).2] 104 (0,0)):=by rw [← hw2];exact heap_alloc_new _ _
 have c0:w2.cell? ⟨w1.heap.size,0,none⟩=some (.int .i64 N):=row_cell hh 0
 have c2:w2.cell? ⟨w1.heap.size,2,none⟩=some (.int .i64 a):=row_cell hh 2
 have c3:w2.cell? ⟨w1.heap.size,3,none⟩=some (.int .i64 b):=row_cell hh 3
 have HB:=Lib.hid (show Below w.heap.size w w2 by rw [← hw2];exact hb.alloc hb.size _)
 have HW2:=Lib.hid hw2
 clear hb HO hw2 hh hN ha hb2
 go_wp2_with (rw [HW2.out])
 go_quiet (fail)
 go_wp2_with fail
 go_ret3
 refine ⟨?_,MM.below_drewN HB.out _⟩
 rw [HT.out,HAB.out.1,HAB.out.2]
 first | rfl | (simp;done)
theorem seqs_any (h:PCell w p l dp dn dc mp):Calls Try.prog 61 #[.pointer p] w fun e w'=>e=.returned (.tuple #[.int .i64 (seqsM l).1,.int .i64 (seqsM l).2])∧Below w.heap.size w w':=by
 have HO:=Lib.hid (ornone_p h)
 clear h
 go_enter Try.func61,Try.ntmps61
 go_wp2_with fail
 refine HO.out.mono ?_
 rintro e w1 ⟨rfl,hb⟩
 unfold ixA
 obtain ⟨a,ha⟩:∃ a,(seqsM l).1=a:=⟨_,rfl⟩
 obtain ⟨b,hb2⟩:∃ b,(seqsM l).2=b:=⟨_,rfl⟩
 rw [ha,hb2]
 have HAB:=Lib.hid (And.intro ha hb2)
 have f0:=ix_f0 (.int .i64 (l.length:Int)) (.int .i64 (sizeM l:Int)) (.int .i64 (timesM l).1) (.int .i64 (timesM l).2.1) (.int .i64 a) (.int .i64 b) (.slice dp dn dc) (.map mp) w1
 obtain ⟨w2,hw2⟩:∃ w2,w1.alloc (.cells #[.int .i64 (l.length:Int),.int .i64 (sizeM l:Int),.int .i64 (timesM l).1,.int .i64 (timesM l).2.1,.int .i64 a,.int .i64 b] 104)=w2:=⟨_,rfl⟩
 have hh:w2.heap[w1.heap.size]? = some (.cells #[.int .i64 (l.length:Int),.int .i64 (sizeM l:Int),.int .i64 (timesM l).1,.int .i64 (timesM l).2.1,.int .i64 a,.int .i64 b] 104 (0,0)):=by rw [← hw2];exact heap_alloc_new _ _
 have c4:w2.cell? ⟨w1.heap.size,4,none⟩=some (.int .i64 a):=row_cell hh 4
 have c5:w2.cell? ⟨w1.heap.size,5,none⟩=some (.int .i64 b):=row_cell hh 5
 have HB:=Lib.hid (show Below w.heap.size w w2 by rw [← hw2];exact hb.alloc hb.size _)
 have HW2:=Lib.hid hw2
 clear hb HO hw2 hh ha hb2
 go_wp2_with (rw [HW2.out])
 go_quiet (fail)
 go_wp2_with fail
 go_ret2
 refine ⟨?_,MM.below_drewN HB.out _⟩
 rw [HAB.out.1,HAB.out.2]
 first | rfl | (simp;done)
end
theorem Idx.cellp {A:Nat→Prop} {w:World} {g:Nat} {l:List Doc} (h:Idx A w g l):∃ dp dc mb X F,PCell w (some ⟨g,0,none⟩) l dp l.length dc (some mb)∧ROn docC A w (.slice dp l.length dc) l∧RowsU A mb (rowsE (evM l)) X F w:=by
 obtain ⟨_,U,D,mb,X,F,dv,h⟩:=h
 obtain ⟨dp,dc,rfl,_⟩:=(OwnS.any h.docs).shape
 exact ⟨dp,dc,mb,X,F,.inr ⟨g,rfl,h.cells⟩,OwnS.ron h.docs (fun b hb=>(h.ao b hb).1) fun b _ hb=>(h.ad b hb).1,h.rows.weak fun b hb=>(h.au b hb).1⟩
end Go.Proofs.Ytdfbkhpkffpckaa.MX
namespace Go.Proofs.Ytdfbkhpkffpckaa.SG
open Go Go.RowKit MM PW
theorem ron_ion {S:Nat→Prop} {w:World} {v:Value} {zs:List Int} (h:ROn cInt S w v zs):IOn S w v zs:=by
 obtain ⟨p,cap,raw,hv,h1,h2,h3,hm,hc⟩:=h
 refine ⟨p,cap,hv,h1,h2,h3,?_⟩
 rcases hc with hc | ⟨b,off,hp,hlt,hS,hc⟩
 ·exact .inl hc
 ·refine .inr ⟨b,off,hp,hlt,hS,fun i hi => ?_⟩
  have hi':i<raw.length:=by rw [hm.1];exact hi
  have e:raw[i]=[.int .i64 zs[i]]:=hm.2 i hi' hi
  have hf:=flat_get hm.lens i hi' 0 (.int .i64 zs[i]) (by rw [e];rfl)
  have hz:cInt.size=1:=rfl
  rw [hz,Nat.mul_one,Nat.add_zero] at hf
  exact hc i _ hf
def cellsP:List Value→Int×Value
 | [.int _ z,u]=>(z,u)
 | _=>(0,.bool false)
theorem ron_pon {S:Nat→Prop} {w:World} {v:Value} {ps:List (Int×List Int)} (h:ROn postC S w v ps):POn S w v ps:=by
 obtain ⟨p,cap,raw,hv,h1,h2,h3,hm,hc⟩:=h
 have hon:∀ i (hi:i<raw.length) (hi':i<ps.length),∃ u,raw[i]=[.int .i64 ps[i].1,u]∧ROn cInt S w u ps[i].2:=fun i hi hi'=>by
  obtain ⟨x,y,hxy,hx,u,hy,hr⟩:=hm.2 i hi hi'
  have hx:x=[.int .i64 ps[i].1]:=hx
  exact ⟨u,by rw [hxy,hx,hy];rfl,hr⟩
 refine ⟨p,cap,raw.map cellsP,hv,h1,h2,h3,⟨by rw [List.length_map];exact hm.1,fun i hi hi' => ?_⟩,?_⟩
 ·rw [List.length_map] at hi
  obtain ⟨u,e,hr⟩:=hon i hi hi'
  rw [List.getElem_map,e]
  exact ⟨rfl,ron_ion hr⟩
 ·rcases hc with hc | ⟨b,off,hp,hlt,hS,hc⟩
  ·exact .inl hc
  ·refine .inr ⟨b,off,hp,hlt,hS,fun i hi => ?_⟩
   rw [List.length_map] at hi
   have hi':i<ps.length:=by rw [← hm.1];exact hi
   obtain ⟨u,e,hr⟩:=hon i hi hi'
   have hz:postC.size=2:=rfl
   have f0:=flat_get hm.lens i hi 0 (.int .i64 ps[i].1) (by rw [e];rfl)
   have f1:=flat_get hm.lens i hi 1 u (by rw [e];rfl)
   rw [hz,Nat.add_zero] at f0
   rw [hz] at f1
   rw [List.getElem_map,e]
   exact ⟨hc _ _ f0,by have:=hc _ _ f1;rw [← Nat.add_assoc] at this;exact this⟩
end Go.Proofs.Ytdfbkhpkffpckaa.SG
namespace Go.Proofs.Ytdfbkhpkffpckaa.MX
open Go Go.RowKit MM EM SM
open EV (docC evC batC)
def Side (n1 g q:Nat) (w:World):Prop :=
 ∃ A l rv,Idx A w g l∧(∀ b,A b→n1≤b)∧¬ A q∧q<w.heap.size∧w.heap[q]? = some (.cells #[rv] 49 (0,0))∧ROn docC (fun b=>¬ A b∧b≠q) w rv l
theorem Side.below {n1 g q:Nat} {w w':World} (h:Side n1 g q w) (hb:Below w.heap.size w w'):Side n1 g q w':=by
 obtain ⟨A,l,rv,h1,h2,h3,h4,h5,h6⟩:=h
 exact ⟨A,l,rv,h1.below hb,h2,h3,Nat.lt_of_lt_of_le h4 hb.size,(hb.block q h4).trans h5,ROn.keep h6 (kep_below _ hb) fun _ _ h=>h⟩
end Go.Proofs.Ytdfbkhpkffpckaa.MX
