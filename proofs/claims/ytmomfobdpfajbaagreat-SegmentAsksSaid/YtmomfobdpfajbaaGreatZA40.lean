import Derived.Test.YtmomfobdpfajbaaGreatZA39
import Derived.Lib.SmallJoins
set_option maxRecDepth 100000
set_option maxHeartbeats 0
set_option linter.unusedVariables false
set_option linter.unusedSimpArgs false
namespace Go.Proofs.YtmomfobdpfajbaaGreat
open Tryz
namespace SG
open RowKit MM
open EV (ZD Zae)
open SM (Zq isS ZaS)
open GM (ZbV sized Zax ZaE ZeJ Zdz)
open FM (Zx ZaH ZcH)
def ZtE (r:Xu×Int) (w:World) (e:Ending) (w':World):Prop:=∃u,e=.returned (.tuple #[u,.int .i64 r.2])/\Zd w.heap.size w' u r.1/\Below w.heap.size w w'
theorem Zmc (p:Xu) (ps:List Xu):0<(Zx (p::ps)).length:=by
 have:=(ZcH p).1;rw [ZaH,Xd];omega
theorem ZtT (v:Value) (l:List Zq) (w:World) (a:ZF ZD w v l) (h:isS l=false\/l=[]):Calls prog 10 #[v] w (ZtE ([],130) w):=by
 by_cases c:l=[]
 ·subst c;obtain ⟨p,g,rfl,f,d,_⟩:=a.shape;clear a h;go_enter func10,ntmps10;go_wp2_with fail;go_ret2;exact ⟨_,rfl,World.ownsRow_nil _ _ _ _,Below.refl _ _⟩
 ·have j:=h.resolve_right c;have i:=ST.Zf3 v l w a;rw [j] at i;obtain ⟨p,g,rfl,f,d,_⟩:=a.shape;have hn:=Xaa.2 c;have q1:((l.length:Int) == 0)=false:=Xb;have k:=Y4 (show Calls _ _ _ w (EV.ZbJ 120 w) from i);clear a h j i c;go_enter func10,ntmps10;go_wp2_with fail;refine k.z.mono ?_;rintro e w1 ⟨rfl,b⟩;have m:=Y4 b;clear b;go_wp2_with fail;go_ret2;exact ⟨_,rfl,World.ownsRow_nil _ _ _ _,m.z⟩
theorem ZeK (v:Value) (l:List Zq) (w:World) (Y:ZF ZD w v l) (G:isS l=true) (f:ZbV l) (m:ZaS l) (h0:l≠[]):Calls prog 10 #[v] w (ZtE (ZaE l,0) w):=by
 have hz:=sized G f;have hC:=ST.Zf3 v l w Y;rw [G] at hC;have HC:=Y4 (show Calls _ _ _ w (EV.ZbJ 0 w) from hC);have HS:=Y4 (fun W (hW:Below w.heap.size w W)=>Zwh v l W (Y.below hW) G f m h0);have a:=GM.Zin G f;have z:ZaE l=[76,83,69,71]++Zx (Zax l):=rfl;have V:0<(Zx (Zax l)).length:=Zmc _ _;have HJ:=Y4 (fun W u (h:CR.Za7 W u (Zax l))=>FP.ZA7 u (Zax l) W h (fun p hp=>by have:=hz.sects p hp;omega) (by rw [z,Xd] at a;omega));obtain ⟨p,aj,rfl,af,ag,_⟩:=Y.shape;have hn:=Xaa.2 h0;have q1:((l.length:Int) == 0)=false:=Xb;rw [z] at a ⊢;rw [Xd] at a;obtain ⟨o,q⟩:=Xn (Zx (Zax l));rw [q] at a V ⊢;simp only [Xh,Xv] at a;have ac:=Y4 q;clear Y G f m h0 hz hC z q;go_enter func10,ntmps10;go_wp2_with fail;refine HC.z.mono ?_;rintro e w1 ⟨rfl,T⟩;have r:=Y4 T;clear T;go_wp2_with fail;refine (HS.z _ r.z).mono ?_;rintro e w2 ⟨v2,rfl,s,D⟩;have F:=Y4 (HJ.z _ _ s);have N:=Y4 (r.z.trans (D.mono r.z.size));obtain ⟨p2,c2,rfl,_⟩:=CR.Za7.shape s;clear s D HJ HS HC;go_wp2_with fail;refine F.z.mono ?_;rintro e i ⟨v3,rfl,d,I⟩;rw [ac.z] at d;have S:=Y4 (N.z.trans (I.mono N.z.size));obtain ⟨p3,c3,rfl,ai,ah⟩:=(Zd.brow d).shape;have x:=Zd.brow d;obtain ⟨b3,o3,rfl,ae,_⟩:=BIn.at_ x (k:=0) V;obtain ⟨A,c⟩:=Xn (i.alloc (.cells #[.int .u8 76,.int .u8 83,.int .u8 69,.int .u8 71] 5 (4,5)));have y:Below i.heap.size i A:=by rw [<- c];exact (Below.refl _ _).alloc (Xa _) _
 have hk:=Joins.run_convert_bytes_const_at (P:=prog) i 23 5 #[.int .u8 76,.int .u8 83,.int .u8 69,.int .u8 71] 4 4 i.heap.size rfl underlying23 underlying5;simp only [Xar,Xh,Xv,Nat.reduceAdd] at hk;rw [c] at hk;have U:A.heap[i.heap.size]? = some (.cells #[.int .u8 76,.int .u8 83,.int .u8 69,.int .u8 71] 5 (4,5)):=by rw [<- c];exact heap_alloc_new _ _
 have n:∀j u,([.int .u8 76,.int .u8 83,.int .u8 69,.int .u8 71]:List Value)[j]? = some u->A.cell? ((⟨i.heap.size,0,none⟩:Addr).add j)=some u:=fun j u H=>by
  rw [ZZ,XL,Zf U j];simpa using H
 have C:=Zv.below x y
 have g:∀j u,(Lib.byteCells o)[j]? = some u->A.cell? ((⟨b3,o3,none⟩:Addr).add j)=some u:=fun j u H=>by
  obtain ⟨p',cap',O,_,_,_,M⟩:=C;simp only [Value.slice.injEq,Xx] at O;obtain ⟨rfl,_,_⟩:=O;rcases M with M|⟨b',o',he,_,M⟩
  ·rw [M] at H;simp at H
  ·simp only [Xx,Addr.mk.injEq,and_true] at he;obtain ⟨rfl,rfl⟩:=he;rw [ZZ];exact M j u H
 have J:=Y4 n;have R:=Y4 g;have t:=Y4 (S.z.trans (y.mono S.z.size));have ak:=Y4 c;obtain ⟨i0,hi,ab,aa,ad⟩:=info_parts ZaI;clear d I x C c y U n g F;go_wp2_with (at_builtin;go_loud (refine wpList_append_grows A rfl _ _ 23 rfl 5 i0 (.int .u8 0) 1 1 underlying23 hi ab aa ad rfl (by decide) (some ⟨i.heap.size,0,none⟩) 4 4 [.int .u8 76,.int .u8 83,.int .u8 69,.int .u8 71] rfl (fun h=>by cases h) rfl (fun b hb=>by obtain rfl:=XW hb;exact J.z) ⟨b3,o3,none⟩ o.length c3 (Lib.byteCells o) rfl (by rw [Zi,XaB]) R.z (byteCells_one o) (by omega) (by unfold maxLen;omega) (by omega) ?_;intro v5 Z X L))
 have E:Below w.heap.size w Z:=t.z.grown L t.z.size (fun k h=>by cases h)
 have HQ:Y5 (ZtE ([76,83,69,71]++o,0) w (.returned (.tuple #[v5,.int .i64 0])) Z):=Y4 ⟨_,rfl,Zd.weaken (B:=A.heap.size) (by
  show Z.ownsRow _ 5 1 v5 ([76,83,69,71]++o).length (Lib.byteCells ([76,83,69,71]++o))
  rw [byteCells_append,Xd];exact X) t.z.size,E⟩
 clear X L E;go_wp2_with fail;go_ret2;exact HQ.z
theorem Ze5 (v:Value) (l:List Zq) (w:World) (d:ZF ZD w v l) (b:ZbV l) (a:ZaS l):Calls prog 10 #[v] w (ZtE (ZeJ l) w):=by
 rw [Zdz b]
 by_cases h:isS l=true/\l≠[]
 ·rw [Xe h];exact ZeK v l w d h.1 b a h.2
 ·rw [Xc h];refine ZtT v l w d ?_
  by_cases c:isS l=true
  ·exact .inr (Xaz fun e=>h ⟨c,e⟩)
  ·exact .inl (by simpa using c)
