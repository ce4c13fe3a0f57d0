import Derived.Test.YtdijhifdjbnkfaaGreatZT23
import Derived.Test.YtdijhifdjbnkfaaGreatZT24
import Derived.WalkSmall
set_option maxRecDepth 100000
set_option maxHeartbeats 0
set_option linter.unusedVariables false
set_option linter.unusedSimpArgs false
namespace Go.Proofs.YtdijhifdjbnkfaaGreat
open Lib (hid)
open Tryz
namespace UM
open RowKit
variable {w:World} {B e size n k pos:Nat} {v:Value} {xs:List Value} {s:ByteArray} {acc:List Int}
theorem Zgi:(prog.info? 3).map (fun i=>(i.zero,i.size,i.bytes))=some (some (.int .i64 0),1,8):=by kernel_rfl
theorem Zdu (w:World) (x:Value) (t:TypeId):∀j u,[x][j]? = some u->(w.alloc (.cells #[x] t)).cell? ((⟨w.heap.size,0,none⟩:Addr).add j)=some u:=by
 intro j u a
 match j,a with
 | 0,a=>simp at a;subst a;simp [Addr.add]
 | (j+1),a=>simp at a
theorem ZhP (k:IntKind) (r:Int):∀u∈[Value.int k r],u.oneCell'=true:=by intro u a;simp at a;subst a;rfl
def ZiP (B:Nat) (w:World) (v:Value) (a:List Int):Prop:=w.ownsRow B 3 1 v a.length (a.map (Value.int .i64))
theorem Zyz (h:w.ownsRow B e size v n xs) (j:w.heap[k]? = some (.stringIter s pos)) (q:Nat):(w.iterAt k s q).ownsRow B e size v n xs:=by
 refine ⟨h.1,?_⟩;rcases h.2 with d|⟨g,c,b,i,f,a,rest⟩
 ·exact .inl d
 ·refine .inr ⟨g,c,b,i,f,?_,rest⟩;rw [Lib.iterAt_other _ _ _ _ _ (fun e=>by subst e;rw [j] at a;cases a)];exact a
theorem Zpi (h:w.ownsRow B e size v n xs) (d:w.heap[k]? = some (.stringIter s pos)):some k≠v.ownBlock:=by
 intro e;rcases h.2 with ⟨rfl,_⟩|⟨g,f,b,rfl,hb,a,_⟩
 ·cases e
 ·have c:k=g:=XP e;subst c;rw [d] at a;cases a
theorem ZmY (s:ByteArray) (pos:Nat) (hp:pos<s.size) :
  runesL (s.data.toList.drop pos)=((Utf8.decode s pos).1:Int)::runesL (s.data.toList.drop (pos+(Utf8.decode s pos).2))/\1<=(Utf8.decode s pos).2/\pos+(Utf8.decode s pos).2<=s.size:=by
 have hl:s.data.toList.length=s.size:=(Lib.size_eq s).symm
 have a:s.data.toList.drop pos≠[]:=by
  intro h;have:=Xp List.length h;rw [Xj] at this;simp at this;omega
 have b:=ZkV _ a;have c:=Lib.decodeL_width (s.data.toList.drop pos);have d:=Lib.decodeL_le _ a;rw [Lib.decodeL_drop] at b c d;rw [Xj] at d;rw [XaM] at b;exact ⟨b,c,by omega⟩
def Zls (s:ByteArray) (acc:List Int) (pos:Nat):Prop:=acc++runesL (s.data.toList.drop pos)=runesL s.data.toList/\acc.length<=pos/\pos<=s.size
theorem Zls.start (s:ByteArray):Zls s [] 0:=⟨by simp,by simp,by omega⟩
theorem Zls.next (h:Zls s acc pos) (b:pos<s.size):Zls s (acc++[((Utf8.decode s pos).1:Int)]) (pos+(Utf8.decode s pos).2):=by
 obtain ⟨c,h2,a⟩:=ZmY s pos b;refine ⟨?_,?_,a⟩
 ·rw [<- h.1,c];simp
 ·have:=h.2.1;simp;omega
theorem Zls.stop (h:Zls s acc pos) (hp:¬pos<s.size):acc=runesL s.data.toList:=by
 have a:=h.1;have h2:=h.2.2;rw [List.drop_eq_nil_of_le (by rw [<- Lib.size_eq];omega),ZsM,XI] at a;exact a
theorem ZqQ {r:Int} (h:w.ownsRow B 3 1 v (acc.length+1) (acc.map (Value.int .i64)++[.int .i64 r])):ZiP B w v (acc++[r]):=by
 unfold ZiP;rw [Xd,XN];exact h
def Zeq (s:ByteArray) (w:World) (e:Ending) (w':World):Prop:=∃v,e=.returned v/\ZiP w.heap.size w' v (runesL s.data.toList)/\Below w.heap.size w w'
theorem ZsK (s:ByteArray) (w:World) (hs:s.size<=1000000) :
  Calls prog 119 #[.string s] w (Zeq s w):=by
 unfold Zeq;obtain ⟨i0,hi,C,A,z⟩:=info_parts Zgi;go_enter func119,ntmps119;go_wp2
 go_loopw [3,4] (fun v i wr=>∃(pos:Nat) (acc:List Int),i=.int .i64 pos/\ZiP w.heap.size wr v acc/\Below w.heap.size w wr/\Zls s acc pos) (fun _ i _=>s.size - (intOf i).toNat)
 case atStart=>exact ⟨0,[],rfl,World.ownsRow_nil _ _ _ _,Below.refl _ _,Zls.start s⟩
 case round =>
  obtain ⟨pos,acc,rfl,b,u,o⟩:=hrel;have y:=u.size
  by_cases t:pos<s.size
  ·have g:=fun W=>ZBn s pos W (by omega) t;have a:=o.next t;have F:=(ZmY s pos t).2;have E:=o.2.1;obtain ⟨r,x⟩:=Xn ((Utf8.decode s pos).1);obtain ⟨d,q⟩:=Xn ((Utf8.decode s pos).2);rw [x,q] at a;rw [q] at F;simp only [x,q] at g;clear x q;obtain ⟨M,O⟩:=F;have I:=hid g;have N:=hid a;clear g a o;have p:=fun j L=>(b.lt j L).1;have HL:=hid p;clear p;have h:wr.ownsRow w.heap.size 3 1 _ acc.length (acc.map (Value.int .i64)):=b;clear b;go_wp2_with fail;refine (I.out _).mono ?_;rintro e w' ⟨rfl,rfl⟩;go_wp2_with (at_builtin;refine wpList_append_own _ rfl _ _ 69 rfl w.heap.size 3 i0 (.int .i64 0) 1 8 underlying69 hi C A z rfl (by decide) _ _ _ rfl (h.alloc _) ⟨wr.heap.size,0,none⟩ 1 1 [.int .i64 (r:Int)] rfl rfl (Zdu _ _ _) (ZhP _ _) (by unfold maxLen;omega) (by omega) (by simp;omega) ?_)
   intro v1 w1 c f m;have D:=Zb0 u y HL.out f;have G:=hid (ZqQ c);clear c f m h;go_wp2;go_roundw
   case rel=>exact ⟨pos+d,acc++[(r:Int)],by go_num,G.out,D,N.out⟩
   case measure=>simp [intOf];omega
  ·have l:=o.stop t;have H:=o.2.2;have J:=hid l;clear l o;go_wp2;go_ret;exact ⟨_,rfl,J.out▸b,u⟩
theorem ZvI (s:ByteArray) (w:World) (hs:s.size<=1000000) :
  Calls prog 269 #[.string s] w (Zeq s w):=by
 unfold Zeq;obtain ⟨i0,hi,X,T,S⟩:=info_parts Zgi;have y:=Lib.runeCount_le s;have L:=fun W=>Tryz.utf8_RuneCountInString s W (by omega);obtain ⟨C,hC⟩:=Xn (Lib.runeCount s);rw [hC] at y;simp only [hC] at L;clear hC;have ac:=hid L;clear L;go_enter func269,ntmps269;go_wp2_with fail;refine (ac.out _).mono ?_;rintro e w' ⟨rfl,af,M⟩;have t:Below w.heap.size w w':=by rw [M];exact (Below.refl _ _).alloc (Xc _) _
 clear M;have u:=t.size;go_wp2_with (at_make;refine wpList_make_own _ rfl _ _ 69 rfl w.heap.size 3 i0 (.int .i64 0) 1 underlying69 hi X T .i64 .i64 _ C rfl rfl rfl (by rw [S];omega) (by unfold maxLen;omega) u ?_;intro i q l)
 have x:Below w.heap.size w i:=t.grown l u (fun k h=>by cases h);have F:=x.size;clear l t u y;have A:=World.iter_heap i s 0;have p:(i.iter s 0).ownsRow w.heap.size 3 1 _ 0 []:=q.alloc _;have D:Below w.heap.size w (i.iter s 0):=x.alloc F _;clear q
 go_loopw [3] (fun v wr=>∃(pos:Nat) (acc:List Int),wr.heap[i.heap.size]? = some (.stringIter s pos)/\ZiP w.heap.size wr v acc/\Below w.heap.size w wr/\Zls s acc pos) (fun _ wr=>s.size - wr.iterPos i.heap.size)
 case atStart=>exact ⟨0,[],A,p,D,Zls.start s⟩
 case round =>
  obtain ⟨pos,acc,hit,m,hb,N⟩:=hrel;clear A p D x;have ag:=hb.size;have c:=iterPos_of hit
  by_cases Z:pos<s.size
  ·have G:∀H,(Instr.next (.pointer (some ⟨i.heap.size,0,none⟩)) true H).run prog wr=_:=fun H=>Lib.run_next_any_at wr i.heap.size s pos H hit Z;have ab:=decode_le s pos;have f:=N.next Z;have hw:=(ZmY s pos Z).2;have ae:=N.2.1;have b:=Lib.iterAt_heap wr i.heap.size s pos (pos+(Utf8.decode s pos).2) hit;have J:=Lib.below_iterAt hb (k:=i.heap.size) F s (pos+(Utf8.decode s pos).2);have a:=Zyz m hit (pos+(Utf8.decode s pos).2);obtain ⟨W1,aa⟩:∃W1,W1=wr.iterAt i.heap.size s (pos+(Utf8.decode s pos).2):=⟨_,rfl⟩;rw [<- aa] at G b J a;obtain ⟨r,hr⟩:=Xn ((Utf8.decode s pos).1);obtain ⟨d,hd⟩:=Xn ((Utf8.decode s pos).2);rw [hr,hd] at f;rw [hd] at hw b;rw [hr] at ab;simp only [hr] at G;clear hr hd aa hit m hb N;obtain ⟨ah,ai⟩:=hw;have R:=lt_of_block b;have Y:=J.size;have U:=Zpi a b;have O:=fun j hj=>(a.lt j hj).1;have HX:=hid f;have HL:=hid O;have HN:=hid U;have HT:=hid b;have HP:=hid c;clear f O U b c;go_wp2_with (at_builtin;refine wpList_append_own _ rfl _ _ 69 rfl w.heap.size 3 i0 (.int .i64 0) 1 8 underlying69 hi X T S rfl (by decide) _ _ _ rfl (a.alloc _) ⟨W1.heap.size,0,none⟩ 1 1 [.int .i64 (r:Int)] rfl rfl (Zdu _ _ _) (ZhP _ _) (by unfold maxLen;omega) (by omega) (by simp;omega) ?_)
   intro v1 w1 o g I;have ad:=Zb0 J Y HL.out g
   have z:w1.heap[i.heap.size]? = some (.stringIter s (pos+d)):=by
    rw [g.block i.heap.size (by simp;omega) HN.out,Below.heap_alloc _ _ _ R];exact HT.out
   have HO:=hid (ZqQ o);have V:=hid z;clear o g I a z;go_wp2;go_roundw
   case rel=>exact ⟨pos+d,acc++[(r:Int)],V.out,HO.out,ad,HX.out⟩
   case measure=>rw [iterPos_of V.out,HP.out];omega
  ·have E:=N.stop Z;have G:∀H,(Instr.next (.pointer (some ⟨i.heap.size,0,none⟩)) true H).run prog wr=_:=fun H=>Lib.run_next_end_at wr i.heap.size s pos H hit Z;have HA:=hid E;have HP:=hid c;clear E N c;go_wp2;go_ret;exact ⟨_,rfl,HA.out▸m,hb⟩
