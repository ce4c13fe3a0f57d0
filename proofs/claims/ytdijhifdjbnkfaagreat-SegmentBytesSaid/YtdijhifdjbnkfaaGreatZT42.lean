import Derived.Test.YtdijhifdjbnkfaaGreatZT18
import Derived.Test.YtdijhifdjbnkfaaGreatZT41
import Derived.Test.YtdijhifdjbnkfaaGreatZT19
set_option maxRecDepth 100000
set_option maxHeartbeats 0
set_option linter.unusedVariables false
set_option linter.unusedSimpArgs false
namespace Go.Proofs.YtdijhifdjbnkfaaGreat
open Lib (hid)
open Tryz
namespace SG
open RowKit MM
open EM (Tr Zs)
open DM (ZQ Zb7)
open DT (Zdm Found ZfL Zl6 Zo9)
open PM (Zm isL)
open PW (Zbp POn)
open GM (Z9 Zn ZjV ZkO)
def Znu (ps:List Zm) (w:World) (e:Ending) (w':World):Prop:=∃v,e=.returned v/\Zbp w' v ps/\Below w.heap.size w w'
theorem ZyH (w:World):Zbp w (.slice none 0 0) []:=⟨none,0,[],rfl,Xc _,by unfold maxLen;omega,fun _=>rfl,⟨rfl,fun i h=>by simp at h⟩,.inl rfl⟩
theorem Zxe (ps:List Zm):1<=(PM.ZV ps).length:=by
 have:=(VM.Zc ps.length).1;unfold PM.ZV;simp only [Xd];omega
theorem Zka (F:Option Addr) (rv:Value) (O:Value) (ad:O.oneCell'=true) (rows:List (Tr Zm)) (u:Xu) (w:World) (S:Zdm (fun _=>True) w F (Z9 0 rows)) (hA:Zb7 (Z9 0 rows)=true) (D:Zq w rv (Zn rows)) (B:(Zn rows).length<=1000000000) (a:∀r∈rows,isL r.2=true) :
  Calls prog 60 #[.agg #[.pointer F,rv,O],.string ⟨u.toArray⟩] w (Znu (Zs rows u) w):=by
 obtain ⟨p,l,rfl,V,Z⟩:=D.shape;unfold maxLen at Z;obtain ⟨q,hq⟩:=Xn w.heap.size;obtain ⟨C,f⟩:=Xn (w.alloc (.cells #[.pointer F,.slice p (Zn rows).length l,O] 84));have j:Below w.heap.size w C:=by rw [<- f];exact (Below.refl _ _).alloc (Xc _) _
 have I:Hid (Three C q 84 (.pointer F) (.slice p (Zn rows).length l) O):=hid (by rw [<- f,<- hq];exact ZaE w 84 _ _ _);obtain ⟨x0,R,x2⟩:=I.out.cells;have s:=hid (DT.ZAw F (Z9 0 rows) u C (S.below j) hA);have U:=hid (Zq.below D j);have n:=hid j;have y:=hid f;rcases ZjV rows 0 u with ⟨M,G⟩|⟨k,hk,M,G,h3⟩
 ·rw [M] at s;rw [G];clear S D j f M G hA a;go_enter func60,ntmps60;go_wp2_with fail;rw [y.out];go_wp2_with fail;refine s.out.mono ?_;rintro e N ⟨rfl,c⟩;have H:=hid (n.out.trans (c.mono n.out.size));clear c s x0 R x2;have g:=hid (fun o=>H.out.alloc H.out.size o);simp only [Option.getD_none,Option.isSome_none,Zl6];go_wp2_with fail;go_ret;exact ⟨_,rfl,ZyH _,g.out _⟩
 ·obtain ⟨d,m⟩:=ZkO hk;have t:=Zxe rows[k].2;have T:=a _ (XH hk);rw [M,Int.zero_add] at s;rw [G];obtain ⟨ps,J⟩:=Xn (rows[k].2);rw [J] at s d m t T ⊢;have i:PM.ZoZ (PM.ZV ps)=some ps:=PM.ZnL (by omega) ⟨T,rfl⟩;obtain ⟨E,hE⟩:=Xn (PM.ZV ps);rw [hE] at s d m t i;obtain ⟨o,ho⟩:=Xn ((Zn (rows.take k)).length);rw [ho] at s d m;obtain ⟨X,hX⟩:=Xn (Zn rows);rw [hX] at D B V I U y R f d m ⊢;obtain ⟨b,off,rfl,_,_⟩:=Z3.at_ U.out (k:=0) (by omega);have A:=hid (fun W v (h:Zq W v E)=>PW.ZrV v E W h (by omega));rw [i] at A;have aa:¬l=o:=by omega
  have hP:∀W,Below C.heap.size C W->Zq W (.slice (some ⟨b,off+o,none⟩) E.length (l - o)) E:=fun W hW=>by
   have h:=((Zq.below U.out hW).drop o (by omega)).take E.length (by omega);rw [Xa aa,Xai,ZY,d] at h;exact h
  have HP:=hid hP;have i1:(o:Int)<=(o:Int)+(E.length:Int):=by omega
  have i2:(o:Int)+(E.length:Int)<=(l:Int):=by omega
  clear S D j f M G hA a hP i hX hE J d T;go_enter func60,ntmps60;go_wp2_with fail;rw [y.out];go_wp2_with fail;refine s.out.mono ?_;rintro e N ⟨rfl,c⟩;simp only [Option.getD_some,Option.isSome_some,Zl6];have Y:=I.out.below c I.out.lt;have z:Below N.heap.size N (N.alloc (.cells #[.string ⟨u.toArray⟩,.int .i64 (o:Int),.int .i64 (E.length:Int),.int .i64 (ps.length:Int)] 102)):=(Below.refl _ _).alloc (Xc _) _;obtain ⟨y0,y1,y2⟩:=(Y.below z Y.lt).cells;have g:=hid (c.trans (z.mono c.size));clear c s x0 R x2 I z Y;go_wp2_with fail;refine (A.out _ _ (HP.out _ g.out)).mono ?_;rintro e w4 ⟨v4,rfl,x,L⟩;obtain ⟨p4,c4,rfl,_⟩:=POn.shape x;have ab:=hid x;have ac:=hid (n.out.trans ((g.out.trans (L.mono g.out.size)).mono n.out.size));clear x L;go_wp2_with fail;go_ret;exact ⟨_,rfl,ab.out,ac.out⟩
theorem Zyg (a b:Value) (ht:a.oneCell'=true) (c:b.oneCell'=true) (u:Xu) (w:World):Calls prog 61 #[.agg #[a,b,.pointer none],.string ⟨u.toArray⟩] w fun e w'=>e=.returned (.bool false)/\Below w.heap.size w w':=by
 have d:=hid ((Below.refl w.heap.size w).alloc (Xc _) (.cells #[a,b,.pointer none] 84));go_enter func61,ntmps61;go_wp2_with fail;go_ret;exact ⟨rfl,d.out⟩
theorem Zyh (k j:Value) (ht:k.oneCell'=true) (p:j.oneCell'=true) (g b i:Nat) (L u:Xu) (w:World) (h:BL.FAt w g b i L) (s:u.length<=1000000):Calls prog 61 #[.agg #[k,j,.pointer (some ⟨g,0,none⟩)],.string ⟨u.toArray⟩] w fun e w'=>e=.returned (.bool (BM.Zk3 L u))/\Below w.heap.size w w':=by
 obtain ⟨q,o⟩:=Xn w.heap.size;obtain ⟨m,a⟩:=Xn (w.alloc (.cells #[k,j,.pointer (some ⟨g,0,none⟩)] 84));have c:Below w.heap.size w m:=by rw [<- a];exact (Below.refl _ _).alloc (Xc _) _
 have t:Hid (Three m q 84 k j (.pointer (some ⟨g,0,none⟩))):=hid (by rw [<- a,<- o];exact ZaE w 84 _ _ _);obtain ⟨x0,x1,x2⟩:=t.out.cells;have r:=hid (BL.ZAU g b i L u m (h.below c) s);have d:=hid c;have l:=hid a;clear h c a;go_enter func61,ntmps61;go_wp2_with fail;rw [l.out];go_wp2_with fail;refine r.out.mono ?_;rintro e w2 ⟨rfl,f⟩;have n:=hid (d.out.trans (f.mono d.out.size));clear f;go_wp2_with fail;go_ret;exact ⟨rfl,n.out⟩
theorem Zrk (c:Option Addr) (d f:Value) (n:d.oneCell'=true) (o:f.oneCell'=true) (l:List ZQ) (w:World) (j:Zdm (fun _=>True) w c l):Calls prog 68 #[.agg #[.pointer c,d,f]] w fun e w'=>e=.returned (.int .i64 (l.length:Int))/\Below w.heap.size w w':=by
 obtain ⟨q,k⟩:=Xn w.heap.size;obtain ⟨i,a⟩:=Xn (w.alloc (.cells #[.pointer c,d,f] 84));have b:Below w.heap.size w i:=by rw [<- a];exact (Below.refl _ _).alloc (Xc _) _
 have m:Hid (Three i q 84 (.pointer c) d f):=hid (by rw [<- a,<- k];exact ZaE w 84 _ _ _);obtain ⟨x0,x1,x2⟩:=m.out.cells;have HL:=hid (DT.Zlf c l i (j.below b));have h:=hid b;have g:=hid a;clear j b a;go_enter func68,ntmps68;go_wp2_with fail;rw [g.out];go_wp2_with fail;refine HL.out.mono ?_;rintro e w2 ⟨rfl,rfl⟩;go_wp2_with fail;go_ret;exact ⟨rfl,h.out⟩
open EV (ZA Z8)
open SM (Zo isS)
open DT (Zdm)
open GM (Z9 Zn Zt Zp Zak ZiN)
variable {S T:Nat->Prop} {w w':World} {ev rv:Value} {tp fp p:Option Addr}
structure SegD (S:Nat->Prop) (w:World) (l:List Zo) (ev:Value) (tp:Option Addr) (rv:Value) (fp:Option Addr):Prop where
 docs:ZD ZA S w ev l
 dict:Zdm S w tp (Z9 0 (Zt l))
 rws:ZD cU8 S w rv (Zn (Zt l))
 fil:(l=[]/\fp=none)\/(l≠[]/\∃g b cap,fp=some ⟨g,0,none⟩/\BL.FAt w g b cap (Zak (Zt l))/\S g/\S b)
theorem SegD.keep {l:List Zo} (h:SegD S w l ev tp rv fp) (d:Kep S w w') (c:∀b,S b->T b):SegD T w' l ev tp rv fp:=by
 refine ⟨h.docs.keep d fun b _ a=>c b a,h.dict.keep d fun b _ a=>c b a,h.rws.keep d fun b _ a=>c b a,?_⟩;rcases h.fil with f|⟨f,g,b,i,e,m,k,j⟩
 ·exact .inl f
 ·exact .inr ⟨f,g,b,i,e,m.keep d k j,c g k,c b j⟩
theorem SegD.below {l:List Zo} (h:SegD (fun _=>True) w l ev tp rv fp) (a:Below w.heap.size w w'):SegD (fun _=>True) w' l ev tp rv fp:=h.keep (Za _ a) fun _ h=>h
theorem SegD.nobody (S:Nat->Prop) (w:World):SegD S w [] (.slice none 0 0) none (.slice none 0 0) none:=⟨ZD.nil_ _ _,.inl ⟨rfl,rfl⟩,ZD.nil_ _ _,.inl ⟨rfl,rfl⟩⟩
def ZCz (ev:Value) (tp:Option Addr) (rv:Value) (fp:Option Addr) (F:ZiN):Array Value :=
 #[ev,.pointer tp,rv,.pointer fp,.int .i64 0,.int .i64 0,.int .i64 F.1,.int .i64 F.2.1,.int .i64 F.2.2.1,.int .i64 F.2.2.2.1,.int .i64 (F.2.2.2.2:Int)]
def Zf1 (S:Nat->Prop) (w:World) (p:Option Addr) (l:List Zo):Prop :=
 (p=none/\l=[])\/∃g ev tp rv fp,p=some ⟨g,0,none⟩/\S g/\w.heap[g]? = some (.cells (ZCz ev tp rv fp (Zp l)) 88 (0,0))/\SegD S w l ev tp rv fp
theorem Zf1.keep {l:List Zo} (h:Zf1 S w p l) (c:Kep S w w') (a:∀b,S b->T b):Zf1 T w' p l:=by
 rcases h with h|⟨g,ev,tp,rv,fp,f,e,d,i⟩
 ·exact .inl h
 ·exact .inr ⟨g,ev,tp,rv,fp,f,a g e,(c.block g (Xo.1 d).1 e).trans d,i.keep c a⟩
theorem Zf1.any {l:List Zo} (h:Zf1 S w p l):Zf1 (fun _=>True) w p l:=h.keep (Kep.refl _ _) fun _ _=>trivial
theorem Zf1.below {l:List Zo} (h:Zf1 (fun _=>True) w p l) (a:Below w.heap.size w w'):Zf1 (fun _=>True) w' p l:=h.keep (Za _ a) fun _ h=>h
def Ztc (l:List Zo) (w:World) (e:Ending) (w':World):Prop :=
 ∃ev tp rv fp,e=.returned (.agg #[ev,.pointer tp,rv,.pointer fp,.int .i64 0,.int .i64 0,.int .i64 (Zp l).1,.int .i64 (Zp l).2.1,.int .i64 (Zp l).2.2.1,.int .i64 (Zp l).2.2.2.1,.int .i64 ((Zp l).2.2.2.2:Int)])/\SegD (fun _=>True) w' l ev tp rv fp/\Below w.heap.size w w'
theorem ZtA:(prog.info? 88).map (·.size)=some 11:=by kernel_rfl
theorem ZdE (p:Option Addr) (l:List Zo) (w:World) (h:Zf1 (fun _=>True) w p l):Calls prog 57 #[.pointer p] w (Ztc l w):=by
 rcases h with ⟨rfl,rfl⟩|⟨g,ev,tp,rv,fp,rfl,_,j,i⟩
 ·obtain ⟨q,I⟩:=Xn w.heap.size;obtain ⟨z,b⟩:=Xn (w.alloc (.cells #[.slice none 0 0,.pointer none,.slice none 0 0,.pointer none,.int .i64 0,.int .i64 0,.int .i64 0,.int .i64 0,.int .i64 0,.int .i64 0,.int .i64 0] 88));have s:=hid (show Below w.heap.size w z by rw [<- b];exact (Below.refl _ _).alloc (Xc _) _);have u:Hid (z.heap[q]? = some (.cells #[.slice none 0 0,.pointer none,.slice none 0 0,.pointer none,.int .i64 0,.int .i64 0,.int .i64 0,.int .i64 0,.int .i64 0,.int .i64 0,.int .i64 0] 88 (0,0))):=hid (by rw [<- b,<- I];exact heap_alloc_new _ _);have n:=hid b;clear b;go_enter func57,ntmps57;go_wp2_with fail;rw [n.out];refine bodyPost_ret (Zpk (p:=2) rfl underlying88 rfl _ (by exact ZtA) _ _ q rfl u.out) rfl ⟨_,_,_,_,rfl,SegD.nobody _ _,s.out⟩
 ·obtain ⟨x,C,rfl,_⟩:=i.docs.shape;obtain ⟨B,E,rfl,_⟩:=i.rws.shape;unfold Ztc;obtain ⟨⟨f0,f1,A,H,f4⟩,y⟩:∃F,Zp l=F:=⟨_,rfl⟩;rw [y] at j ⊢;have d:Below w.heap.size w (w.alloc (.cells #[.slice none 0 0,.pointer none,.slice none 0 0,.pointer none,.int .i64 0,.int .i64 0,.int .i64 0,.int .i64 0,.int .i64 0,.int .i64 0,.int .i64 0] 88)):=(Below.refl _ _).alloc (Xc _) _;have a:=(d.block g (Xo.1 j).1).trans j;have c0:(w.alloc (.cells #[.slice none 0 0,.pointer none,.slice none 0 0,.pointer none,.int .i64 0,.int .i64 0,.int .i64 0,.int .i64 0,.int .i64 0,.int .i64 0,.int .i64 0] 88)).cell? ⟨g,0,none⟩=some (.slice x l.length C):=Zh a 0;have c1:(w.alloc (.cells #[.slice none 0 0,.pointer none,.slice none 0 0,.pointer none,.int .i64 0,.int .i64 0,.int .i64 0,.int .i64 0,.int .i64 0,.int .i64 0,.int .i64 0] 88)).cell? ⟨g,1,none⟩=some (.pointer tp):=Zh a 1;have c2:(w.alloc (.cells #[.slice none 0 0,.pointer none,.slice none 0 0,.pointer none,.int .i64 0,.int .i64 0,.int .i64 0,.int .i64 0,.int .i64 0,.int .i64 0,.int .i64 0] 88)).cell? ⟨g,2,none⟩=some (.slice B (Zn (Zt l)).length E):=Zh a 2;have c3:(w.alloc (.cells #[.slice none 0 0,.pointer none,.slice none 0 0,.pointer none,.int .i64 0,.int .i64 0,.int .i64 0,.int .i64 0,.int .i64 0,.int .i64 0,.int .i64 0] 88)).cell? ⟨g,3,none⟩=some (.pointer fp):=Zh a 3;have c4:(w.alloc (.cells #[.slice none 0 0,.pointer none,.slice none 0 0,.pointer none,.int .i64 0,.int .i64 0,.int .i64 0,.int .i64 0,.int .i64 0,.int .i64 0,.int .i64 0] 88)).cell? ⟨g,4,none⟩=some (.int .i64 0):=Zh a 4;have c5:(w.alloc (.cells #[.slice none 0 0,.pointer none,.slice none 0 0,.pointer none,.int .i64 0,.int .i64 0,.int .i64 0,.int .i64 0,.int .i64 0,.int .i64 0,.int .i64 0] 88)).cell? ⟨g,5,none⟩=some (.int .i64 0):=Zh a 5;have c6:(w.alloc (.cells #[.slice none 0 0,.pointer none,.slice none 0 0,.pointer none,.int .i64 0,.int .i64 0,.int .i64 0,.int .i64 0,.int .i64 0,.int .i64 0,.int .i64 0] 88)).cell? ⟨g,6,none⟩=some (.int .i64 f0):=Zh a 6;have c7:(w.alloc (.cells #[.slice none 0 0,.pointer none,.slice none 0 0,.pointer none,.int .i64 0,.int .i64 0,.int .i64 0,.int .i64 0,.int .i64 0,.int .i64 0,.int .i64 0] 88)).cell? ⟨g,7,none⟩=some (.int .i64 f1):=Zh a 7;have c8:(w.alloc (.cells #[.slice none 0 0,.pointer none,.slice none 0 0,.pointer none,.int .i64 0,.int .i64 0,.int .i64 0,.int .i64 0,.int .i64 0,.int .i64 0,.int .i64 0] 88)).cell? ⟨g,8,none⟩=some (.int .i64 A):=Zh a 8;have c9:(w.alloc (.cells #[.slice none 0 0,.pointer none,.slice none 0 0,.pointer none,.int .i64 0,.int .i64 0,.int .i64 0,.int .i64 0,.int .i64 0,.int .i64 0,.int .i64 0] 88)).cell? ⟨g,9,none⟩=some (.int .i64 H):=Zh a 9;have J:(w.alloc (.cells #[.slice none 0 0,.pointer none,.slice none 0 0,.pointer none,.int .i64 0,.int .i64 0,.int .i64 0,.int .i64 0,.int .i64 0,.int .i64 0,.int .i64 0] 88)).cell? ⟨g,10,none⟩=some (.int .i64 (f4:Int)):=Zh a 10;obtain ⟨X,m⟩:∃X:Array Value,#[.slice x l.length C,.pointer tp,.slice B (Zn (Zt l)).length E,.pointer fp,.int .i64 0,.int .i64 0,.int .i64 f0,.int .i64 f1,.int .i64 A,.int .i64 H,.int .i64 (f4:Int)]=X:=⟨_,rfl⟩;have c:X.size=11:=by rw [<- m];rfl
  have f:X.all (·.oneCell')=true:=by rw [<- m];simp [Value.oneCell']
  have r:(w.alloc (.cells #[.slice none 0 0,.pointer none,.slice none 0 0,.pointer none,.int .i64 0,.int .i64 0,.int .i64 0,.int .i64 0,.int .i64 0,.int .i64 0,.int .i64 0] 88)).heap[w.heap.size]? = some (.cells #[.slice none 0 0,.pointer none,.slice none 0 0,.pointer none,.int .i64 0,.int .i64 0,.int .i64 0,.int .i64 0,.int .i64 0,.int .i64 0,.int .i64 0] 88 (0,0)):=heap_alloc_new _ _;have hi:(prog.info? 88).map (·.size)=some X.size:=by rw [c];exact ZtA
  have u:=hid (setRow_heap (w.alloc (.cells #[.slice none 0 0,.pointer none,.slice none 0 0,.pointer none,.int .i64 0,.int .i64 0,.int .i64 0,.int .i64 0,.int .i64 0,.int .i64 0,.int .i64 0] 88)) w.heap.size _ X _ _ r);have e:Below w.heap.size w ((w.alloc (.cells #[.slice none 0 0,.pointer none,.slice none 0 0,.pointer none,.int .i64 0,.int .i64 0,.int .i64 0,.int .i64 0,.int .i64 0,.int .i64 0,.int .i64 0] 88)).setRow w.heap.size X):=d.trans ⟨rfl,rfl,rfl,by simp [World.setRow],fun k hk=>setRow_other _ _ k X (by omega)⟩;have L:=hid (i.below e);have s:=hid e;have G:=hid hi;have o:Hid ((#[.slice none 0 0,.pointer none,.slice none 0 0,.pointer none,.int .i64 0,.int .i64 0,.int .i64 0,.int .i64 0,.int .i64 0,.int .i64 0,.int .i64 0]:Array Value).size=X.size):=hid (by rw [c];rfl);have t:=hid f;have M:=hid r;have D:=hid m;clear e d j a i y m r hi f c;go_enter func57,ntmps57;go_wp2_with (go_loud (refine wpList_store_row rfl 88 (.tmp 2) (.tmp 8) rfl w.heap.size X rfl (by rw [<- D.out];rfl) 88 #[.slice none 0 0,.pointer none,.slice none 0 0,.pointer none,.int .i64 0,.int .i64 0,.int .i64 0,.int .i64 0,.int .i64 0,.int .i64 0,.int .i64 0] M.out G.out o.out t.out ?_))
  refine bodyPost_ret (v:=.agg X) (results_cell_row rfl _ _ w.heap.size 88 X (0,0) _ rfl u.out underlying88 rfl G.out) rfl ⟨_,_,_,_,by rw [<- D.out],L.out,s.out⟩
