import Derived.Test.YtmomfobdpfajbaaGreatZA25
import Derived.Test.YtmomfobdpfajbaaGreatZA26
import Derived.WalkSmall
set_option maxRecDepth 100000
set_option maxHeartbeats 0
set_option linter.unusedVariables false
set_option linter.unusedSimpArgs false
namespace Go.Proofs.YtmomfobdpfajbaaGreat
open Tryz
namespace UM
open RowKit
variable {w:World} {B e size n k pos:Nat} {v:Value} {xs:List Value} {s:ByteArray} {acc:List Int}
theorem Zgd:(prog.info? 3).map (fun i=>(i.zero,i.size,i.bytes))=some (some (.int .i64 0),1,8):=by kernel_rfl
theorem Zdw (w:World) (x:Value) (t:TypeId):∀j u,[x][j]? = some u->(w.alloc (.cells #[x] t)).cell? ((⟨w.heap.size,0,none⟩:Addr).add j)=some u:=by
 intro j u a
 match j,a with
 | 0,a=>simp at a;subst a;simp [Addr.add]
 | (j+1),a=>simp at a
theorem ZhL (k:IntKind) (r:Int):∀u∈[Value.int k r],u.oneCell'=true:=by intro u a;simp at a;subst a;rfl
def ZiW (B:Nat) (w:World) (v:Value) (a:List Int):Prop:=w.ownsRow B 3 1 v a.length (a.map (Value.int .i64))
theorem Zy2 (h:w.ownsRow B e size v n xs) (d:w.heap[k]? = some (.stringIter s pos)) (q:Nat):(w.iterAt k s q).ownsRow B e size v n xs:=by
 refine ⟨h.1,?_⟩;rcases h.2 with i|⟨g,b,a,f,j,c,rest⟩
 ·exact .inl i
 ·refine .inr ⟨g,b,a,f,j,?_,rest⟩;rw [Lib.iterAt_other _ _ _ _ _ (fun e=>by subst e;rw [d] at c;cases c)];exact c
theorem Zpu (h:w.ownsRow B e size v n xs) (c:w.heap[k]? = some (.stringIter s pos)):some k≠v.ownBlock:=by
 intro e;rcases h.2 with ⟨rfl,_⟩|⟨g,d,b,rfl,hb,a,_⟩
 ·cases e
 ·have f:k=g:=XW e;subst f;rw [c] at a;cases a
theorem Zm4 (s:ByteArray) (pos:Nat) (hp:pos<s.size) :
  runesL (s.data.toList.drop pos)=((Utf8.decode s pos).1:Int)::runesL (s.data.toList.drop (pos+(Utf8.decode s pos).2))/\1<=(Utf8.decode s pos).2/\pos+(Utf8.decode s pos).2<=s.size:=by
 have hl:s.data.toList.length=s.size:=(Lib.size_eq s).symm
 have a:s.data.toList.drop pos≠[]:=by
  intro h;have:=Xr List.length h;rw [Xp] at this;simp at this;omega
 have b:=Zk2 _ a;have d:=Lib.decodeL_width (s.data.toList.drop pos);have c:=Lib.decodeL_le _ a;rw [Lib.decodeL_drop] at b d c;rw [Xp] at c;rw [XaI] at b;exact ⟨b,d,by omega⟩
def Zlt (s:ByteArray) (acc:List Int) (pos:Nat):Prop:=acc++runesL (s.data.toList.drop pos)=runesL s.data.toList/\acc.length<=pos/\pos<=s.size
theorem Zlt.start (s:ByteArray):Zlt s [] 0:=⟨by simp,by simp,by omega⟩
theorem Zlt.next (h:Zlt s acc pos) (b:pos<s.size):Zlt s (acc++[((Utf8.decode s pos).1:Int)]) (pos+(Utf8.decode s pos).2):=by
 obtain ⟨a,h2,c⟩:=Zm4 s pos b;refine ⟨?_,?_,c⟩
 ·rw [<- h.1,a];simp
 ·have:=h.2.1;simp;omega
theorem Zlt.stop (h:Zlt s acc pos) (hp:¬pos<s.size):acc=runesL s.data.toList:=by
 have a:=h.1;have h2:=h.2.2;rw [List.drop_eq_nil_of_le (by rw [<- Lib.size_eq];omega),Ztj,XH] at a;exact a
theorem Zrb {r:Int} (h:w.ownsRow B 3 1 v (acc.length+1) (acc.map (Value.int .i64)++[.int .i64 r])):ZiW B w v (acc++[r]):=by
 unfold ZiW;rw [Xd,XM];exact h
def Zeo (s:ByteArray) (w:World) (e:Ending) (w':World):Prop:=∃v,e=.returned v/\ZiW w.heap.size w' v (runesL s.data.toList)/\Below w.heap.size w w'
theorem Zth (s:ByteArray) (w:World) (hs:s.size<=1000000) :
  Calls prog 119 #[.string s] w (Zeo s w):=by
 unfold Zeo;obtain ⟨i0,hi,C,z,D⟩:=info_parts Zgd;go_enter func119,ntmps119;go_wp2
 go_loopw [3,4] (fun v i wr=>∃(pos:Nat) (acc:List Int),i=.int .i64 pos/\ZiW w.heap.size wr v acc/\Below w.heap.size w wr/\Zlt s acc pos) (fun _ i _=>s.size - (intOf i).toNat)
 case atStart=>exact ⟨0,[],rfl,World.ownsRow_nil _ _ _ _,Below.refl _ _,Zlt.start s⟩
 case round =>
  obtain ⟨pos,acc,rfl,b,y,o⟩:=hrel;have u:=y.size
  by_cases t:pos<s.size
  ·have g:=fun W=>ZBJ s pos W (by omega) t;have a:=o.next t;have F:=(Zm4 s pos t).2;have E:=o.2.1;obtain ⟨r,A⟩:=Xn ((Utf8.decode s pos).1);obtain ⟨d,q⟩:=Xn ((Utf8.decode s pos).2);rw [A,q] at a;rw [q] at F;simp only [A,q] at g;clear A q;obtain ⟨N,L⟩:=F;have M:=Y4 g;have J:=Y4 a;clear g a o;have p:=fun j H=>(b.lt j H).1;have HL:=Y4 p;clear p;have f:wr.ownsRow w.heap.size 3 1 _ acc.length (acc.map (Value.int .i64)):=b;clear b;go_wp2_with fail;refine (M.z _).mono ?_;rintro e w' ⟨rfl,rfl⟩;go_wp2_with (at_builtin;refine wpList_append_own _ rfl _ _ 69 rfl w.heap.size 3 i0 (.int .i64 0) 1 8 underlying69 hi C z D rfl (by decide) _ _ _ rfl (f.alloc _) ⟨wr.heap.size,0,none⟩ 1 1 [.int .i64 (r:Int)] rfl rfl (Zdw _ _ _) (ZhL _ _) (by unfold maxLen;omega) (by omega) (by simp;omega) ?_)
   intro v1 w1 h c m;have x:=ZbZ y u HL.z c;have G:=Y4 (Zrb h);clear h c m f;go_wp2;go_roundw
   case rel=>exact ⟨pos+d,acc++[(r:Int)],by go_num,G.z,x,J.z⟩
   case measure=>simp [intOf];omega
  ·have l:=o.stop t;have I:=o.2.2;have O:=Y4 l;clear l o;go_wp2;go_ret;exact ⟨_,rfl,O.z▸b,y⟩
theorem Zwd (s:ByteArray) (w:World) (hs:s.size<=1000000) :
  Calls prog 269 #[.string s] w (Zeo s w):=by
 unfold Zeo;obtain ⟨i0,hi,Y,T,aa⟩:=info_parts Zgd;have E:=Lib.runeCount_le s;have I:=fun W=>Tryz.utf8_RuneCountInString s W (by omega);obtain ⟨C,hC⟩:=Xn (Lib.runeCount s);rw [hC] at E;simp only [hC] at I;clear hC;have ac:=Y4 I;clear I;go_enter func269,ntmps269;go_wp2_with fail;refine (ac.z _).mono ?_;rintro e w' ⟨rfl,af,V⟩;have p:Below w.heap.size w w':=by rw [V];exact (Below.refl _ _).alloc (Xa _) _
 clear V;have o:=p.size;go_wp2_with (at_make;refine wpList_make_own _ rfl _ _ 69 rfl w.heap.size 3 i0 (.int .i64 0) 1 underlying69 hi Y T .i64 .i64 _ C rfl rfl rfl (by rw [aa];omega) (by unfold maxLen;omega) o ?_;intro i x l)
 have q:Below w.heap.size w i:=p.grown l o (fun k h=>by cases h);have D:=q.size;clear l p o E;have A:=World.iter_heap i s 0;have m:(i.iter s 0).ownsRow w.heap.size 3 1 _ 0 []:=x.alloc _;have F:Below w.heap.size w (i.iter s 0):=q.alloc D _;clear x
 go_loopw [3] (fun v wr=>∃(pos:Nat) (acc:List Int),wr.heap[i.heap.size]? = some (.stringIter s pos)/\ZiW w.heap.size wr v acc/\Below w.heap.size w wr/\Zlt s acc pos) (fun _ wr=>s.size - wr.iterPos i.heap.size)
 case atStart=>exact ⟨0,[],A,m,F,Zlt.start s⟩
 case round =>
  obtain ⟨pos,acc,hit,t,hb,S⟩:=hrel;clear A m F q;have ag:=hb.size;have c:=iterPos_of hit
  by_cases Z:pos<s.size
  ·have J:∀L,(Instr.next (.pointer (some ⟨i.heap.size,0,none⟩)) true L).run prog wr=_:=fun L=>Lib.run_next_any_at wr i.heap.size s pos L hit Z;have ad:=decode_le s pos;have g:=S.next Z;have hw:=(Zm4 s pos Z).2;have ae:=S.2.1;have b:=Lib.iterAt_heap wr i.heap.size s pos (pos+(Utf8.decode s pos).2) hit;have G:=Lib.below_iterAt hb (k:=i.heap.size) D s (pos+(Utf8.decode s pos).2);have a:=Zy2 t hit (pos+(Utf8.decode s pos).2);obtain ⟨W1,X⟩:∃W1,W1=wr.iterAt i.heap.size s (pos+(Utf8.decode s pos).2):=⟨_,rfl⟩;rw [<- X] at J b G a;obtain ⟨r,hr⟩:=Xn ((Utf8.decode s pos).1);obtain ⟨d,hd⟩:=Xn ((Utf8.decode s pos).2);rw [hr,hd] at g;rw [hd] at hw b;rw [hr] at ad;simp only [hr] at J;clear hr hd X hit t hb S;obtain ⟨ai,ah⟩:=hw;have M:=lt_of_block b;have R:=G.size;have U:=Zpu a b;have O:=fun j hj=>(a.lt j hj).1;have HX:=Y4 g;have HL:=Y4 O;have HN:=Y4 U;have HT:=Y4 b;have HP:=Y4 c;clear g O U b c;go_wp2_with (at_builtin;refine wpList_append_own _ rfl _ _ 69 rfl w.heap.size 3 i0 (.int .i64 0) 1 8 underlying69 hi Y T aa rfl (by decide) _ _ _ rfl (a.alloc _) ⟨W1.heap.size,0,none⟩ 1 1 [.int .i64 (r:Int)] rfl rfl (Zdw _ _ _) (ZhL _ _) (by unfold maxLen;omega) (by omega) (by simp;omega) ?_)
   intro v1 w1 u f H;have ab:=ZbZ G R HL.z f
   have y:w1.heap[i.heap.size]? = some (.stringIter s (pos+d)):=by
    rw [f.block i.heap.size (by simp;omega) HN.z,Below.heap_alloc _ _ _ M];exact HT.z
   have HO:=Y4 (Zrb u);have N:=Y4 y;clear u f H a y;go_wp2;go_roundw
   case rel=>exact ⟨pos+d,acc++[(r:Int)],N.z,HO.z,ab,HX.z⟩
   case measure=>rw [iterPos_of N.z,HP.z];omega
  ·have z:=S.stop Z;have J:∀L,(Instr.next (.pointer (some ⟨i.heap.size,0,none⟩)) true L).run prog wr=_:=fun L=>Lib.run_next_end_at wr i.heap.size s pos L hit Z;have HA:=Y4 z;have HP:=Y4 c;clear z S c;go_wp2;go_ret;exact ⟨_,rfl,HA.z▸t,hb⟩
