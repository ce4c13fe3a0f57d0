import Derived.Test.YtmomfobdpfajbaaGreatZA4
import Derived.Test.YtmomfobdpfajbaaGreatZA7
import Derived.Lib.BufferRead
set_option maxRecDepth 100000
set_option maxHeartbeats 0
set_option linter.unusedVariables false
set_option linter.unusedSimpArgs false
namespace Go.Proofs.YtmomfobdpfajbaaGreat
open Tryz
namespace UM
open RowKit
variable {B:Nat} {w' w:World} {v:Value}
def Zr3 (w:World) (v:Value) (a:List Int):Prop :=
 ∃(p:Option Addr) (c:Nat),v=.slice p a.length c/\(a=[]\/∃b off,p=some ⟨b,off,none⟩/\b<w.heap.size/\∀i,i<a.length->w.cell? ⟨b,off+i,none⟩=some (.int .i64 (a.getD i 0)))
theorem ZxJ (a:List Int) (k:Nat) (b:k<a.length):ZY (a.take (k+1))=ZY (a.take k)++Lib.encodeRune (a.getD k 0):=by
 rw [XG b,Zqt];congr 1
 rw [ZjU,ZxH,XH];simp [List.getD,b]
theorem Zq9 {a:List Int} {k:Nat} (c:k<a.length) {v':Value} {r:Int} (b:Lib.runeCells r=Lib.runeCells (a.getD k 0))
  (h:w'.ownsRow B 5 1 v' ((ZY (a.take k)).length+(Lib.runeCells r).length) (Lib.byteCells (ZY (a.take k))++Lib.runeCells r)):w'.ownsRow B 5 1 v' (ZY (a.take (k+1))).length (Lib.byteCells (ZY (a.take (k+1)))):=by
 rw [ZxJ a k c,Xd,<- Lib.runeCells_length,<- b]
 have e:Lib.byteCells (ZY (a.take k)++Lib.encodeRune (a.getD k 0))=Lib.byteCells (ZY (a.take k))++Lib.runeCells r:=by
  rw [b,<- Lib.byteCells_encodeRune];simp [Lib.byteCells]
 rw [e];exact h
theorem Zqv (a:List Int) (k:Nat) (hn:a.length<=1000000):(ZY (a.take k)).length<=4000000:=by
 have:=Zqu (a.take k);have h2:(a.take k).length<=a.length:=XaU _ _;omega
theorem Zqm {l:Xu} (h:w.ownsRow B 5 1 v l.length (Lib.byteCells l)):(convert 23 9 v).run prog w=.ok (.string ⟨l.toArray⟩) w:=by
 rcases h.2 with ⟨rfl,d⟩|⟨g,a,c,rfl,hg,e,hn,hm,hs,b⟩
 ·have:l=[]:=XP d;subst this;exact Lib.run_convert_nil_bytes w 23 9 5 0 underlying23 underlying5 underlying9
 ·refine run_convert_bytes_back w 23 9 5 _ a l underlying23 underlying5 underlying9 ?_;rw [XaB] at b;exact Lib.bytes_of_row e b
theorem ZbZ {wr:World} {o:Obj} (b:Below B w wr) (a:B<=wr.heap.size) (c:∀k,v.ownBlock=some k->B<=k) (d:(wr.alloc o).grownBy w' v.ownBlock):Below B w w' :=
 (b.alloc a o).grown d (by simp;omega) c
theorem Zd0 (v:Value) (f:List Int) (w:World) (u:Zr3 w v f) (N:f.length<=1000000) :
  Calls prog 179 #[v] w fun e w'=>e=.returned (.string ⟨(ZY f).toArray⟩)/\Below w.heap.size w w':=by
 obtain ⟨p,O,rfl,m⟩:=u;have q:=Y4 m;clear m;go_enter func179,ntmps179;go_wp2
 go_loopw [3,4] (fun v i wr=>∃k:Nat,k<=f.length/\i=.int .i64 k/\wr.ownsRow w.heap.size 5 1 v (ZY (f.take k)).length (Lib.byteCells (ZY (f.take k)))/\Below w.heap.size w wr) (fun _ i _=>f.length - (intOf i).toNat)
 case atStart=>exact ⟨0,XX _,rfl,World.ownsRow_nil _ _ _ _,Below.refl _ _⟩
 case round =>
  obtain ⟨k,hk,rfl,d,x⟩:=hrel
  by_cases n:k<f.length
  ·rcases q.z with h|⟨b,off,rfl,D,F⟩
   ·subst h;exact absurd n (by simp)
   have s:=x.size;have g:=F k n;rw [<- x.cell (p:=⟨b,off+k,none⟩) D] at g;have y:=Zqv f k N;have c:=Zdd w.heap.size _ _ _ (f.getD k 0) _ d (by omega) s;have t:=fun j I=>(d.lt j I).1;have a:=fun H R h=>Zq9 (B:=w.heap.size) (w':=H) (v':=R) n rfl h;obtain ⟨r,u⟩:=Xn (f.getD k 0);rw [u] at g c;simp only [u] at a;obtain ⟨L,E⟩:=Xn (ZY (f.take k));simp only [E] at c a;have M:=Y4 c;have J:=Y4 a;have HL:=Y4 t;clear c a u E F d t;go_wp2_with fail;refine M.z.mono ?_;rintro e w' ⟨v',rfl,l,o,A⟩;have z:=ZbZ x s HL.z A;have G:=Y4 l;have HG:=Y4 A;clear l A;go_wp2;go_roundw
   case rel=>exact ⟨k+1,by omega,by go_num,J.z _ _ G.z,z⟩
   case measure=>simp [intOf];omega
  ·obtain rfl:k=f.length:=by omega
   rw [XB] at d;have C:=Zqm d;go_wp2;go_ret;exact ⟨rfl,x⟩
theorem Ze5 (v:Value) (f:List Int) (w:World) (C:Zr3 w v f) (hn:f.length<=1000000) :
  Calls prog 285 #[v] w fun e w'=>e=.returned (.string ⟨(ZY f).toArray⟩)/\Below w.heap.size w w':=by
 obtain ⟨p,aa,rfl,t⟩:=C;have y:=Y4 t;clear t;obtain ⟨i0,hi,M,I,R⟩:=info_parts ZaI;go_enter func285,ntmps285;go_wp2_with (at_make;refine wpList_make_own _ rfl _ _ 23 rfl w.heap.size 5 i0 (.int .u8 0) 1 underlying23 hi M I .i64 .i64 _ f.length rfl rfl rfl (by rw [R];omega) (by unfold maxLen;omega) (Xa _) ?_;intro Z n l)
 have D:Below w.heap.size w Z:=(Below.refl _ _).grown l (Xa _) (fun k h=>by cases h)
 go_loopw [3,11] (fun v i wr=>∃k:Nat,k<=f.length/\i=.int .i64 k/\wr.ownsRow w.heap.size 5 1 v (ZY (f.take k)).length (Lib.byteCells (ZY (f.take k)))/\Below w.heap.size w wr) (fun _ i _=>f.length - (intOf i).toNat)
 case atStart=>exact ⟨0,XX _,rfl,n,D⟩
 case round =>
  obtain ⟨k,hk,rfl,d,E⟩:=hrel;clear n l D
  by_cases u:k<f.length
  ·rcases y.z with h|⟨b,off,rfl,O,T⟩
   ·subst h;exact absurd u (by simp)
   have z:=E.size;have m:=T k u;rw [<- E.cell (p:=⟨b,off+k,none⟩) O] at m;have F:=Zqv f k hn;have x:=ZAE (f.getD k 0);have c:=Tryz.utf8_AppendRune_plain w.heap.size _ _ _ (Zpg (f.getD k 0)) x.1 x.2 _ d (by omega) z;have A:=fun j Y=>(d.lt j Y).1;have a:=fun X V' h=>Zq9 (B:=w.heap.size) (w':=X) (v':=V') u (Zsu _) h;have g:=fun W=>Znn (f.getD k 0) W;obtain ⟨r,C⟩:=Xn (f.getD k 0);rw [C] at m c;simp only [C] at a g;obtain ⟨q,H⟩:=Xn (Zpg r);rw [H] at c;simp only [H] at a g;obtain ⟨L,S⟩:=Xn (ZY (f.take k));simp only [S] at c a;have HP:=Y4 c;have HN:=Y4 a;have HL:=Y4 A;have U:=Y4 g;clear c a C S T d A g x H;go_wp2_with fail;refine (U.z _).mono ?_;rintro e w' ⟨rfl,rfl⟩;go_wp2_with fail;refine HP.z.mono ?_;rintro e w' ⟨v',rfl,s,o,J⟩;have G:=ZbZ E z HL.z J;have V:=Y4 s;have HG:=Y4 J;clear s J;go_wp2;go_roundw
   case rel=>exact ⟨k+1,by omega,by go_num,HN.z _ _ V.z,G⟩
   case measure=>simp [intOf];omega
  ·obtain rfl:k=f.length:=by omega
   rw [XB] at d;have N:=Zqm d;go_wp2;go_ret;exact ⟨rfl,E⟩
