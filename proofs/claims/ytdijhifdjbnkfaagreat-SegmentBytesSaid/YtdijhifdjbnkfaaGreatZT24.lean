import Derived.Test.YtdijhifdjbnkfaaGreatZT4
import Derived.Test.YtdijhifdjbnkfaaGreatZT7
import Derived.Lib.BufferRead
set_option maxRecDepth 100000
set_option maxHeartbeats 0
set_option linter.unusedVariables false
set_option linter.unusedSimpArgs false
namespace Go.Proofs.YtdijhifdjbnkfaaGreat
open Lib (hid)
open Tryz
namespace UM
open RowKit
variable {B:Nat} {w' w:World} {v:Value}
def Zrz (w:World) (v:Value) (a:List Int):Prop :=
 ∃(p:Option Addr) (c:Nat),v=.slice p a.length c/\(a=[]\/∃b off,p=some ⟨b,off,none⟩/\b<w.heap.size/\∀i,i<a.length->w.cell? ⟨b,off+i,none⟩=some (.int .i64 (a.getD i 0)))
theorem Zxf (a:List Int) (k:Nat) (b:k<a.length):ZV (a.take (k+1))=ZV (a.take k)++Lib.encodeRune (a.getD k 0):=by
 rw [XG b,Zp9];congr 1
 rw [ZjS,Zxd,XI];simp [List.getD,b]
theorem ZqO {a:List Int} {k:Nat} (c:k<a.length) {v':Value} {r:Int} (b:Lib.runeCells r=Lib.runeCells (a.getD k 0))
  (h:w'.ownsRow B 5 1 v' ((ZV (a.take k)).length+(Lib.runeCells r).length) (Lib.byteCells (ZV (a.take k))++Lib.runeCells r)):w'.ownsRow B 5 1 v' (ZV (a.take (k+1))).length (Lib.byteCells (ZV (a.take (k+1)))):=by
 rw [Zxf a k c,Xd,<- Lib.runeCells_length,<- b]
 have e:Lib.byteCells (ZV (a.take k)++Lib.encodeRune (a.getD k 0))=Lib.byteCells (ZV (a.take k))++Lib.runeCells r:=by
  rw [b,<- Lib.byteCells_encodeRune];simp [Lib.byteCells]
 rw [e];exact h
theorem Zqb (a:List Int) (k:Nat) (hn:a.length<=1000000):(ZV (a.take k)).length<=4000000:=by
 have:=Zqa (a.take k);have h2:(a.take k).length<=a.length:=XaU _ _;omega
theorem Zp2 {l:Xu} (h:w.ownsRow B 5 1 v l.length (Lib.byteCells l)):(convert 23 9 v).run prog w=.ok (.string ⟨l.toArray⟩) w:=by
 rcases h.2 with ⟨rfl,e⟩|⟨g,a,d,rfl,hg,c,hn,hm,hs,b⟩
 ·have:l=[]:=XO e;subst this;exact Lib.run_convert_nil_bytes w 23 9 5 0 underlying23 underlying5 underlying9
 ·refine run_convert_bytes_back w 23 9 5 _ a l underlying23 underlying5 underlying9 ?_;rw [XaG] at b;exact Lib.bytes_of_row c b
theorem Zb0 {wr:World} {o:Obj} (d:Below B w wr) (a:B<=wr.heap.size) (b:∀k,v.ownBlock=some k->B<=k) (c:(wr.alloc o).grownBy w' v.ownBlock):Below B w w' :=
 (d.alloc a o).grown c (by simp;omega) b
theorem Zdh (v:Value) (f:List Int) (w:World) (q:Zrz w v f) (I:f.length<=1000000) :
  Calls prog 179 #[v] w fun e w'=>e=.returned (.string ⟨(ZV f).toArray⟩)/\Below w.heap.size w w':=by
 obtain ⟨p,R,rfl,m⟩:=q;have u:=hid m;clear m;go_enter func179,ntmps179;go_wp2
 go_loopw [3,4] (fun v i wr=>∃k:Nat,k<=f.length/\i=.int .i64 k/\wr.ownsRow w.heap.size 5 1 v (ZV (f.take k)).length (Lib.byteCells (ZV (f.take k)))/\Below w.heap.size w wr) (fun _ i _=>f.length - (intOf i).toNat)
 case atStart=>exact ⟨0,XU _,rfl,World.ownsRow_nil _ _ _ _,Below.refl _ _⟩
 case round =>
  obtain ⟨k,hk,rfl,d,x⟩:=hrel
  by_cases n:k<f.length
  ·rcases u.out with h|⟨b,off,rfl,y,E⟩
   ·subst h;exact absurd n (by simp)
   have s:=x.size;have g:=E k n;rw [<- x.cell (p:=⟨b,off+k,none⟩) y] at g;have A:=Zqb f k I;have c:=Zdg w.heap.size _ _ _ (f.getD k 0) _ d (by omega) s;have t:=fun j H=>(d.lt j H).1;have a:=fun M J h=>ZqO (B:=w.heap.size) (w':=M) (v':=J) n rfl h;obtain ⟨r,q⟩:=Xn (f.getD k 0);rw [q] at g c;simp only [q] at a;obtain ⟨L,F⟩:=Xn (ZV (f.take k));simp only [F] at c a;have O:=hid c;have N:=hid a;have HL:=hid t;clear c a q F E d t;go_wp2_with fail;refine O.out.mono ?_;rintro e w' ⟨v',rfl,l,o,z⟩;have D:=Zb0 x s HL.out z;have G:=hid l;have HG:=hid z;clear l z;go_wp2;go_roundw
   case rel=>exact ⟨k+1,by omega,by go_num,N.out _ _ G.out,D⟩
   case measure=>simp [intOf];omega
  ·obtain rfl:k=f.length:=by omega
   rw [XC] at d;have C:=Zp2 d;go_wp2;go_ret;exact ⟨rfl,x⟩
theorem Zem (v:Value) (f:List Int) (w:World) (y:Zrz w v f) (Y:f.length<=1000000) :
  Calls prog 285 #[v] w fun e w'=>e=.returned (.string ⟨(ZV f).toArray⟩)/\Below w.heap.size w w':=by
 obtain ⟨p,aa,rfl,t⟩:=y;have C:=hid t;clear t;obtain ⟨i0,hi,M,J,I⟩:=info_parts ZaJ;go_enter func285,ntmps285;go_wp2_with (at_make;refine wpList_make_own _ rfl _ _ 23 rfl w.heap.size 5 i0 (.int .u8 0) 1 underlying23 hi M J .i64 .i64 _ f.length rfl rfl rfl (by rw [I];omega) (by unfold maxLen;omega) (Xc _) ?_;intro w0 s l)
 have D:Below w.heap.size w w0:=(Below.refl _ _).grown l (Xc _) (fun k h=>by cases h)
 go_loopw [3,11] (fun v i wr=>∃k:Nat,k<=f.length/\i=.int .i64 k/\wr.ownsRow w.heap.size 5 1 v (ZV (f.take k)).length (Lib.byteCells (ZV (f.take k)))/\Below w.heap.size w wr) (fun _ i _=>f.length - (intOf i).toNat)
 case atStart=>exact ⟨0,XU _,rfl,s,D⟩
 case round =>
  obtain ⟨k,hk,rfl,d,E⟩:=hrel;clear s l D
  by_cases u:k<f.length
  ·rcases C.out with h|⟨b,off,rfl,G,S⟩
   ·subst h;exact absurd u (by simp)
   have z:=E.size;have m:=S k u;rw [<- E.cell (p:=⟨b,off+k,none⟩) G] at m;have N:=Zqb f k Y;have x:=ZAk (f.getD k 0);have c:=Tryz.utf8_AppendRune_plain w.heap.size _ _ _ (Zo5 (f.getD k 0)) x.1 x.2 _ d (by omega) z;have A:=fun j X=>(d.lt j X).1;have a:=fun W' Z h=>ZqO (B:=w.heap.size) (w':=W') (v':=Z) u (Zr0 _) h;have g:=fun W=>Zni (f.getD k 0) W;obtain ⟨r,y⟩:=Xn (f.getD k 0);rw [y] at m c;simp only [y] at a g;obtain ⟨q,F⟩:=Xn (Zo5 r);rw [F] at c;simp only [F] at a g;obtain ⟨L,T⟩:=Xn (ZV (f.take k));simp only [T] at c a;have HP:=hid c;have HN:=hid a;have HL:=hid A;have V:=hid g;clear c a y T S d A g x F;go_wp2_with fail;refine (V.out _).mono ?_;rintro e w' ⟨rfl,rfl⟩;go_wp2_with fail;refine HP.out.mono ?_;rintro e w' ⟨v',rfl,n,o,H⟩;have R:=Zb0 E z HL.out H;have U:=hid n;have HG:=hid H;clear n H;go_wp2;go_roundw
   case rel=>exact ⟨k+1,by omega,by go_num,HN.out _ _ U.out,R⟩
   case measure=>simp [intOf];omega
  ·obtain rfl:k=f.length:=by omega
   rw [XC] at d;have O:=Zp2 d;go_wp2;go_ret;exact ⟨rfl,E⟩
