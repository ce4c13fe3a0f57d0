import Derived.Test.YtdijhifdjbnkfaaGreatZT39
import Derived.Lib.SmallJoins
set_option maxRecDepth 100000
set_option maxHeartbeats 0
set_option linter.unusedVariables false
set_option linter.unusedSimpArgs false
namespace Go.Proofs.YtdijhifdjbnkfaaGreat
open Lib (hid)
open Tryz
namespace SG
open RowKit MM
open EV (ZA Z8)
open SM (Zo isS ZaH)
open GM (ZbA sized Zax Zbg Zdw ZeM)
open FM (Zw Zau Zbu)
def Zs6 (r:Xu×Int) (w:World) (e:Ending) (w':World):Prop:=∃u,e=.returned (.tuple #[u,.int .i64 r.2])/\Zd w.heap.size w' u r.1/\Below w.heap.size w w'
theorem Zme (p:Xu) (ps:List Xu):0<(Zw (p::ps)).length:=by
 have:=(Zbu p).1;rw [Zau,Xd];omega
theorem Zti (v:Value) (l:List Zo) (w:World) (a:ZN ZA w v l) (h:isS l=false\/l=[]):Calls prog 10 #[v] w (Zs6 ([],130) w):=by
 by_cases c:l=[]
 ·subst c;obtain ⟨p,i,rfl,d,g,_⟩:=a.shape;clear a h;go_enter func10,ntmps10;go_wp2_with fail;go_ret2;exact ⟨_,rfl,World.ownsRow_nil _ _ _ _,Below.refl _ _⟩
 ·have j:=h.resolve_right c;have f:=ST.Zf7 v l w a;rw [j] at f;obtain ⟨p,i,rfl,d,g,_⟩:=a.shape;have hn:=Xac.2 c;have q1:((l.length:Int) == 0)=false:=Xb;have m:=hid (show Calls _ _ _ w (EV.ZbP 120 w) from f);clear a h j f c;go_enter func10,ntmps10;go_wp2_with fail;refine m.out.mono ?_;rintro e w1 ⟨rfl,b⟩;have k:=hid b;clear b;go_wp2_with fail;go_ret2;exact ⟨_,rfl,World.ownsRow_nil _ _ _ _,k.out⟩
theorem ZeN (v:Value) (l:List Zo) (w:World) (Y:ZN ZA w v l) (R:isS l=true) (d:ZbA l) (m:ZaH l) (h0:l≠[]):Calls prog 10 #[v] w (Zs6 (Zbg l,0) w):=by
 have hz:=sized R d;have hC:=ST.Zf7 v l w Y;rw [R] at hC;have HC:=hid (show Calls _ _ _ w (EV.ZbP 0 w) from hC);have HS:=hid (fun W (hW:Below w.heap.size w W)=>ZvL v l W (Y.below hW) R d m h0);have a:=GM.Zii R d;have y:Zbg l=[76,83,69,71]++Zw (Zax l):=rfl;have M:0<(Zw (Zax l)).length:=Zme _ _;have HJ:=hid (fun W u (h:CR.Zbp W u (Zax l))=>FP.ZAK u (Zax l) W h (fun p hp=>by have:=hz.sects p hp;omega) (by rw [y,Xd] at a;omega));obtain ⟨p,aj,rfl,af,ag,_⟩:=Y.shape;have hn:=Xac.2 h0;have q1:((l.length:Int) == 0)=false:=Xb;rw [y] at a ⊢;rw [Xd] at a;obtain ⟨s,q⟩:=Xn (Zw (Zax l));rw [q] at a M ⊢;simp only [Xh,Xm] at a;have ab:=hid q;clear Y R d m h0 hz hC y q;go_enter func10,ntmps10;go_wp2_with fail;refine HC.out.mono ?_;rintro e w1 ⟨rfl,L⟩;have x:=hid L;clear L;go_wp2_with fail;refine (HS.out _ x.out).mono ?_;rintro e w2 ⟨v2,rfl,o,S⟩;have G:=hid (HJ.out _ _ o);have N:=hid (x.out.trans (S.mono x.out.size));obtain ⟨p2,c2,rfl,_⟩:=CR.Zbp.shape o;clear o S HJ HS HC;go_wp2_with fail;refine G.out.mono ?_;rintro e n ⟨v3,rfl,f,E⟩;rw [ab.out] at f;have I:=hid (N.out.trans (E.mono N.out.size));obtain ⟨p3,c3,rfl,ai,ah⟩:=(Zd.brow f).shape;have r:=Zd.brow f;obtain ⟨b3,o3,rfl,ad,_⟩:=Z3.at_ r (k:=0) M;obtain ⟨A,c⟩:=Xn (n.alloc (.cells #[.int .u8 76,.int .u8 83,.int .u8 69,.int .u8 71] 5 (4,5)));have z:Below n.heap.size n A:=by rw [<- c];exact (Below.refl _ _).alloc (Xc _) _
 have hk:=Joins.run_convert_bytes_const_at (P:=prog) n 23 5 #[.int .u8 76,.int .u8 83,.int .u8 69,.int .u8 71] 4 4 n.heap.size rfl underlying23 underlying5;simp only [Xat,Xh,Xm,Nat.reduceAdd] at hk;rw [c] at hk;have U:A.heap[n.heap.size]? = some (.cells #[.int .u8 76,.int .u8 83,.int .u8 69,.int .u8 71] 5 (4,5)):=by rw [<- c];exact heap_alloc_new _ _
 have i:∀j u,([.int .u8 76,.int .u8 83,.int .u8 69,.int .u8 71]:List Value)[j]? = some u->A.cell? ((⟨n.heap.size,0,none⟩:Addr).add j)=some u:=fun j u F=>by
  rw [ZY,XL,Zh U j];simpa using F
 have V:=Zq.below r z
 have g:∀j u,(Lib.byteCells s)[j]? = some u->A.cell? ((⟨b3,o3,none⟩:Addr).add j)=some u:=fun j u F=>by
  obtain ⟨p',cap',D,_,_,_,C⟩:=V;simp only [Value.slice.injEq,Xv] at D;obtain ⟨rfl,_,_⟩:=D;rcases C with C|⟨b',o',he,_,C⟩
  ·rw [C] at F;simp at F
  ·simp only [Xv,Addr.mk.injEq,and_true] at he;obtain ⟨rfl,rfl⟩:=he;rw [ZY];exact C j u F
 have H:=hid i;have O:=hid g;have t:=hid (I.out.trans (z.mono I.out.size));have ae:=hid c;obtain ⟨i0,hi,ac,aa,Z⟩:=info_parts ZaJ;clear f E r V c z U i g G;go_wp2_with (at_builtin;go_loud (refine wpList_append_grows A rfl _ _ 23 rfl 5 i0 (.int .u8 0) 1 1 underlying23 hi ac aa Z rfl (by decide) (some ⟨n.heap.size,0,none⟩) 4 4 [.int .u8 76,.int .u8 83,.int .u8 69,.int .u8 71] rfl (fun h=>by cases h) rfl (fun b hb=>by obtain rfl:=XP hb;exact H.out) ⟨b3,o3,none⟩ s.length c3 (Lib.byteCells s) rfl (by rw [Zi,XaG]) O.out (byteCells_one s) (by omega) (by unfold maxLen;omega) (by omega) ?_;intro v5 w5 J T))
 have X:Below w.heap.size w w5:=t.out.grown T t.out.size (fun k h=>by cases h)
 have HQ:Hid (Zs6 ([76,83,69,71]++s,0) w (.returned (.tuple #[v5,.int .i64 0])) w5):=hid ⟨_,rfl,Zd.weaken (B:=A.heap.size) (by
  show w5.ownsRow _ 5 1 v5 ([76,83,69,71]++s).length (Lib.byteCells ([76,83,69,71]++s))
  rw [byteCells_append,Xd];exact J) t.out.size,X⟩
 clear J T X;go_wp2_with fail;go_ret2;exact HQ.out
theorem Zem (v:Value) (l:List Zo) (w:World) (c:ZN ZA w v l) (a:ZbA l) (b:ZaH l):Calls prog 10 #[v] w (Zs6 (Zdw l) w):=by
 rw [ZeM a]
 by_cases h:isS l=true/\l≠[]
 ·rw [Xe h];exact ZeN v l w c h.1 a b h.2
 ·rw [Xa h];refine Zti v l w c ?_
  by_cases d:isS l=true
  ·exact .inr (Xar fun e=>h ⟨d,e⟩)
  ·exact .inl (by simpa using d)
