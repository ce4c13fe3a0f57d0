import Derived.Test.YtmomfobdpfajbaaGreatZA22
import Derived.Test.YtmomfobdpfajbaaGreatZA41
import Derived.Test.YtmomfobdpfajbaaGreatZA23
set_option maxRecDepth 100000
set_option maxHeartbeats 0
set_option linter.unusedVariables false
set_option linter.unusedSimpArgs false
namespace Go.Proofs.YtmomfobdpfajbaaGreat
open Tryz
namespace SG
open RowKit MM
open EM (Tr Zm)
open DM (ZN ZbC)
open DT (ZcE Found ZfH Zl3 Znq)
open PM (Zk isL)
open PW (Za7 POn)
open GM (ZS Zl ZjX ZkW)
def Znz (ps:List Zk) (w:World) (e:Ending) (w':World):Prop:=∃v,e=.returned v/\Za7 w' v ps/\Below w.heap.size w w'
theorem Zy9 (w:World):Za7 w (.slice none 0 0) []:=⟨none,0,[],rfl,Xa _,by unfold maxLen;omega,fun _=>rfl,⟨rfl,fun i h=>by simp at h⟩,.inl rfl⟩
theorem ZxI (ps:List Zk):1<=(PM.ZY ps).length:=by
 have:=(VM.Zc ps.length).1;unfold PM.ZY;simp only [Xd];omega
theorem Zkg (B:Option Addr) (rv:Value) (N:Value) (ab:N.oneCell'=true) (rows:List (Tr Zk)) (u:Xu) (w:World) (Y:ZcE (fun _=>True) w B (ZS 0 rows)) (U:ZbC (ZS 0 rows)=true) (F:Zv w rv (Zl rows)) (A:(Zl rows).length<=1000000000) (c:∀r∈rows,isL r.2=true) :
  Calls prog 60 #[.agg #[.pointer B,rv,N],.string ⟨u.toArray⟩] w (Znz (Zm rows u) w):=by
 obtain ⟨p,l,rfl,T,Z⟩:=F.shape;unfold maxLen at Z;obtain ⟨q,hq⟩:=Xn w.heap.size;obtain ⟨L,f⟩:=Xn (w.alloc (.cells #[.pointer B,.slice p (Zl rows).length l,N] 84));have i:Below w.heap.size w L:=by rw [<- f];exact (Below.refl _ _).alloc (Xa _) _
 have M:Y5 (Three L q 84 (.pointer B) (.slice p (Zl rows).length l) N):=Y4 (by rw [<- f,<- hq];exact Zaj w 84 _ _ _);obtain ⟨x0,x1,x2⟩:=M.z.cells;have n:=Y4 (DT.ZAT B (ZS 0 rows) u L (Y.below i) U);have HR:=Y4 (Zv.below F i);have s:=Y4 i;have x:=Y4 f;rcases ZjX rows 0 u with ⟨G,J⟩|⟨k,hk,G,J,h3⟩
 ·rw [G] at n;rw [J];clear Y F i f G J U c;go_enter func60,ntmps60;go_wp2_with fail;rw [x.z];go_wp2_with fail;refine n.z.mono ?_;rintro e O ⟨rfl,a⟩;have H:=Y4 (s.z.trans (a.mono s.z.size));clear a n x0 x1 x2;have j:=Y4 (fun o=>H.z.alloc H.z.size o);simp only [Option.getD_none,Option.isSome_none,Zl3];go_wp2_with fail;go_ret;exact ⟨_,rfl,Zy9 _,j.z _⟩
 ·obtain ⟨d,m⟩:=ZkW hk;have t:=ZxI rows[k].2;have R:=c _ (XI hk);rw [G,Int.zero_add] at n;rw [J];obtain ⟨ps,D⟩:=Xn (rows[k].2);rw [D] at n d m t R ⊢;have g:PM.Zpa (PM.ZY ps)=some ps:=PM.ZnQ (by omega) ⟨R,rfl⟩;obtain ⟨E,hE⟩:=Xn (PM.ZY ps);rw [hE] at n d m t g;obtain ⟨o,ho⟩:=Xn ((Zl (rows.take k)).length);rw [ho] at n d m;obtain ⟨X,hX⟩:=Xn (Zl rows);rw [hX] at F A T M HR x x1 f d m ⊢;obtain ⟨b,off,rfl,_,_⟩:=BIn.at_ HR.z (k:=0) (by omega);have C:=Y4 (fun W v (h:Zv W v E)=>PW.Zsp v E W h (by omega));rw [g] at C;have S:¬l=o:=by omega
  have hP:∀W,Below L.heap.size L W->Zv W (.slice (some ⟨b,off+o,none⟩) E.length (l - o)) E:=fun W hW=>by
   have h:=((Zv.below HR.z hW).drop o (by omega)).take E.length (by omega);rw [Xc S,Xae,ZZ,d] at h;exact h
  have HP:=Y4 hP;have i1:(o:Int)<=(o:Int)+(E.length:Int):=by omega
  have i2:(o:Int)+(E.length:Int)<=(l:Int):=by omega
  clear Y F i f G J U c hP g hX hE D d R;go_enter func60,ntmps60;go_wp2_with fail;rw [x.z];go_wp2_with fail;refine n.z.mono ?_;rintro e O ⟨rfl,a⟩;simp only [Option.getD_some,Option.isSome_some,Zl3];have t2:=M.z.below a M.z.lt;have y:Below O.heap.size O (O.alloc (.cells #[.string ⟨u.toArray⟩,.int .i64 (o:Int),.int .i64 (E.length:Int),.int .i64 (ps.length:Int)] 102)):=(Below.refl _ _).alloc (Xa _) _;obtain ⟨y0,y1,y2⟩:=(t2.below y t2.lt).cells;have j:=Y4 (a.trans (y.mono a.size));clear a n x0 x1 x2 M y t2;go_wp2_with fail;refine (C.z _ _ (HP.z _ j.z)).mono ?_;rintro e w4 ⟨v4,rfl,z,I⟩;obtain ⟨p4,c4,rfl,_⟩:=POn.shape z;have aa:=Y4 z;have V:=Y4 (s.z.trans ((j.z.trans (I.mono j.z.size)).mono s.z.size));clear z I;go_wp2_with fail;go_ret;exact ⟨_,rfl,aa.z,V.z⟩
theorem ZyJ (a b:Value) (ht:a.oneCell'=true) (c:b.oneCell'=true) (u:Xu) (w:World):Calls prog 61 #[.agg #[a,b,.pointer none],.string ⟨u.toArray⟩] w fun e w'=>e=.returned (.bool false)/\Below w.heap.size w w':=by
 have d:=Y4 ((Below.refl w.heap.size w).alloc (Xa _) (.cells #[a,b,.pointer none] 84));go_enter func61,ntmps61;go_wp2_with fail;go_ret;exact ⟨rfl,d.z⟩
theorem ZyK (j k:Value) (ht:j.oneCell'=true) (o:k.oneCell'=true) (g b f:Nat) (L u:Xu) (w:World) (h:BL.FAt w g b f L) (s:u.length<=1000000):Calls prog 61 #[.agg #[j,k,.pointer (some ⟨g,0,none⟩)],.string ⟨u.toArray⟩] w fun e w'=>e=.returned (.bool (BM.Zh2 L u))/\Below w.heap.size w w':=by
 obtain ⟨q,r⟩:=Xn w.heap.size;obtain ⟨n,a⟩:=Xn (w.alloc (.cells #[j,k,.pointer (some ⟨g,0,none⟩)] 84));have c:Below w.heap.size w n:=by rw [<- a];exact (Below.refl _ _).alloc (Xa _) _
 have t:Y5 (Three n q 84 j k (.pointer (some ⟨g,0,none⟩))):=Y4 (by rw [<- a,<- r];exact Zaj w 84 _ _ _);obtain ⟨x0,x1,x2⟩:=t.z.cells;have p:=Y4 (BL.ZBh g b f L u n (h.below c) s);have i:=Y4 c;have l:=Y4 a;clear h c a;go_enter func61,ntmps61;go_wp2_with fail;rw [l.z];go_wp2_with fail;refine p.z.mono ?_;rintro e w2 ⟨rfl,d⟩;have m:=Y4 (i.z.trans (d.mono i.z.size));clear d;go_wp2_with fail;go_ret;exact ⟨rfl,m.z⟩
theorem ZrN (c:Option Addr) (d f:Value) (k:d.oneCell'=true) (m:f.oneCell'=true) (l:List ZN) (w:World) (j:ZcE (fun _=>True) w c l):Calls prog 68 #[.agg #[.pointer c,d,f]] w fun e w'=>e=.returned (.int .i64 (l.length:Int))/\Below w.heap.size w w':=by
 obtain ⟨q,o⟩:=Xn w.heap.size;obtain ⟨i,a⟩:=Xn (w.alloc (.cells #[.pointer c,d,f] 84));have b:Below w.heap.size w i:=by rw [<- a];exact (Below.refl _ _).alloc (Xa _) _
 have n:Y5 (Three i q 84 (.pointer c) d f):=Y4 (by rw [<- a,<- o];exact Zaj w 84 _ _ _);obtain ⟨x0,x1,x2⟩:=n.z.cells;have HL:=Y4 (DT.Zjg c l i (j.below b));have h:=Y4 b;have g:=Y4 a;clear j b a;go_enter func68,ntmps68;go_wp2_with fail;rw [g.z];go_wp2_with fail;refine HL.z.mono ?_;rintro e w2 ⟨rfl,rfl⟩;go_wp2_with fail;go_ret;exact ⟨rfl,h.z⟩
open EV (ZD Zae)
open SM (Zq isS)
open DT (ZcE)
open GM (ZS Zl Zp Zj Z8 ZiU)
variable {S T:Nat->Prop} {w w':World} {ev rv:Value} {tp fp p:Option Addr}
structure SegD (S:Nat->Prop) (w:World) (l:List Zq) (ev:Value) (tp:Option Addr) (rv:Value) (fp:Option Addr):Prop where
 docs:ZB ZD S w ev l
 dict:ZcE S w tp (ZS 0 (Zp l))
 rws:ZB cU8 S w rv (Zl (Zp l))
 fil:(l=[]/\fp=none)\/(l≠[]/\∃g b cap,fp=some ⟨g,0,none⟩/\BL.FAt w g b cap (Z8 (Zp l))/\S g/\S b)
theorem SegD.keep {l:List Zq} (h:SegD S w l ev tp rv fp) (d:Kep S w w') (a:∀b,S b->T b):SegD T w' l ev tp rv fp:=by
 refine ⟨h.docs.keep d fun b _ c=>a b c,h.dict.keep d fun b _ c=>a b c,h.rws.keep d fun b _ c=>a b c,?_⟩;rcases h.fil with f|⟨f,g,b,i,e,m,k,j⟩
 ·exact .inl f
 ·exact .inr ⟨f,g,b,i,e,m.keep d k j,a g k,a b j⟩
theorem SegD.below {l:List Zq} (h:SegD (fun _=>True) w l ev tp rv fp) (a:Below w.heap.size w w'):SegD (fun _=>True) w' l ev tp rv fp:=h.keep (Za _ a) fun _ h=>h
theorem SegD.nobody (S:Nat->Prop) (w:World):SegD S w [] (.slice none 0 0) none (.slice none 0 0) none:=⟨ZB.nil_ _ _,.inl ⟨rfl,rfl⟩,ZB.nil_ _ _,.inl ⟨rfl,rfl⟩⟩
def ZCP (ev:Value) (tp:Option Addr) (rv:Value) (fp:Option Addr) (F:ZiU):Array Value :=
 #[ev,.pointer tp,rv,.pointer fp,.int .i64 0,.int .i64 0,.int .i64 F.1,.int .i64 F.2.1,.int .i64 F.2.2.1,.int .i64 F.2.2.2.1,.int .i64 (F.2.2.2.2:Int)]
def Zfn (S:Nat->Prop) (w:World) (p:Option Addr) (l:List Zq):Prop :=
 (p=none/\l=[])\/∃g ev tp rv fp,p=some ⟨g,0,none⟩/\S g/\w.heap[g]? = some (.cells (ZCP ev tp rv fp (Zj l)) 88 (0,0))/\SegD S w l ev tp rv fp
theorem Zfn.keep {l:List Zq} (h:Zfn S w p l) (a:Kep S w w') (c:∀b,S b->T b):Zfn T w' p l:=by
 rcases h with h|⟨g,ev,tp,rv,fp,i,e,d,f⟩
 ·exact .inl h
 ·exact .inr ⟨g,ev,tp,rv,fp,i,c g e,(a.block g (Xq.1 d).1 e).trans d,f.keep a c⟩
theorem Zfn.any {l:List Zq} (h:Zfn S w p l):Zfn (fun _=>True) w p l:=h.keep (Kep.refl _ _) fun _ _=>trivial
theorem Zfn.below {l:List Zq} (h:Zfn (fun _=>True) w p l) (a:Below w.heap.size w w'):Zfn (fun _=>True) w' p l:=h.keep (Za _ a) fun _ h=>h
def ZtM (l:List Zq) (w:World) (e:Ending) (w':World):Prop :=
 ∃ev tp rv fp,e=.returned (.agg #[ev,.pointer tp,rv,.pointer fp,.int .i64 0,.int .i64 0,.int .i64 (Zj l).1,.int .i64 (Zj l).2.1,.int .i64 (Zj l).2.2.1,.int .i64 (Zj l).2.2.2.1,.int .i64 ((Zj l).2.2.2.2:Int)])/\SegD (fun _=>True) w' l ev tp rv fp/\Below w.heap.size w w'
theorem Zt9:(prog.info? 88).map (·.size)=some 11:=by kernel_rfl
theorem Zcj (p:Option Addr) (l:List Zq) (w:World) (h:Zfn (fun _=>True) w p l):Calls prog 57 #[.pointer p] w (ZtM l w):=by
 rcases h with ⟨rfl,rfl⟩|⟨g,ev,tp,rv,fp,rfl,_,j,m⟩
 ·obtain ⟨q,I⟩:=Xn w.heap.size;obtain ⟨H,b⟩:=Xn (w.alloc (.cells #[.slice none 0 0,.pointer none,.slice none 0 0,.pointer none,.int .i64 0,.int .i64 0,.int .i64 0,.int .i64 0,.int .i64 0,.int .i64 0,.int .i64 0] 88));have o:=Y4 (show Below w.heap.size w H by rw [<- b];exact (Below.refl _ _).alloc (Xa _) _);have u:Y5 (H.heap[q]? = some (.cells #[.slice none 0 0,.pointer none,.slice none 0 0,.pointer none,.int .i64 0,.int .i64 0,.int .i64 0,.int .i64 0,.int .i64 0,.int .i64 0,.int .i64 0] 88 (0,0))):=Y4 (by rw [<- b,<- I];exact heap_alloc_new _ _);have s:=Y4 b;clear b;go_enter func57,ntmps57;go_wp2_with fail;rw [s.z];refine bodyPost_ret (Zjw (p:=2) rfl underlying88 rfl _ (by exact Zt9) _ _ q rfl u.z) rfl ⟨_,_,_,_,rfl,SegD.nobody _ _,o.z⟩
 ·obtain ⟨C,z,rfl,_⟩:=m.docs.shape;obtain ⟨A,G,rfl,_⟩:=m.rws.shape;unfold ZtM;obtain ⟨⟨f0,f1,y,D,f4⟩,x⟩:∃F,Zj l=F:=⟨_,rfl⟩;rw [x] at j ⊢;have d:Below w.heap.size w (w.alloc (.cells #[.slice none 0 0,.pointer none,.slice none 0 0,.pointer none,.int .i64 0,.int .i64 0,.int .i64 0,.int .i64 0,.int .i64 0,.int .i64 0,.int .i64 0] 88)):=(Below.refl _ _).alloc (Xa _) _;have a:=(d.block g (Xq.1 j).1).trans j;have c0:(w.alloc (.cells #[.slice none 0 0,.pointer none,.slice none 0 0,.pointer none,.int .i64 0,.int .i64 0,.int .i64 0,.int .i64 0,.int .i64 0,.int .i64 0,.int .i64 0] 88)).cell? ⟨g,0,none⟩=some (.slice C l.length z):=Zf a 0;have c1:(w.alloc (.cells #[.slice none 0 0,.pointer none,.slice none 0 0,.pointer none,.int .i64 0,.int .i64 0,.int .i64 0,.int .i64 0,.int .i64 0,.int .i64 0,.int .i64 0] 88)).cell? ⟨g,1,none⟩=some (.pointer tp):=Zf a 1;have c2:(w.alloc (.cells #[.slice none 0 0,.pointer none,.slice none 0 0,.pointer none,.int .i64 0,.int .i64 0,.int .i64 0,.int .i64 0,.int .i64 0,.int .i64 0,.int .i64 0] 88)).cell? ⟨g,2,none⟩=some (.slice A (Zl (Zp l)).length G):=Zf a 2;have c3:(w.alloc (.cells #[.slice none 0 0,.pointer none,.slice none 0 0,.pointer none,.int .i64 0,.int .i64 0,.int .i64 0,.int .i64 0,.int .i64 0,.int .i64 0,.int .i64 0] 88)).cell? ⟨g,3,none⟩=some (.pointer fp):=Zf a 3;have c4:(w.alloc (.cells #[.slice none 0 0,.pointer none,.slice none 0 0,.pointer none,.int .i64 0,.int .i64 0,.int .i64 0,.int .i64 0,.int .i64 0,.int .i64 0,.int .i64 0] 88)).cell? ⟨g,4,none⟩=some (.int .i64 0):=Zf a 4;have c5:(w.alloc (.cells #[.slice none 0 0,.pointer none,.slice none 0 0,.pointer none,.int .i64 0,.int .i64 0,.int .i64 0,.int .i64 0,.int .i64 0,.int .i64 0,.int .i64 0] 88)).cell? ⟨g,5,none⟩=some (.int .i64 0):=Zf a 5;have c6:(w.alloc (.cells #[.slice none 0 0,.pointer none,.slice none 0 0,.pointer none,.int .i64 0,.int .i64 0,.int .i64 0,.int .i64 0,.int .i64 0,.int .i64 0,.int .i64 0] 88)).cell? ⟨g,6,none⟩=some (.int .i64 f0):=Zf a 6;have c7:(w.alloc (.cells #[.slice none 0 0,.pointer none,.slice none 0 0,.pointer none,.int .i64 0,.int .i64 0,.int .i64 0,.int .i64 0,.int .i64 0,.int .i64 0,.int .i64 0] 88)).cell? ⟨g,7,none⟩=some (.int .i64 f1):=Zf a 7;have c8:(w.alloc (.cells #[.slice none 0 0,.pointer none,.slice none 0 0,.pointer none,.int .i64 0,.int .i64 0,.int .i64 0,.int .i64 0,.int .i64 0,.int .i64 0,.int .i64 0] 88)).cell? ⟨g,8,none⟩=some (.int .i64 y):=Zf a 8;have c9:(w.alloc (.cells #[.slice none 0 0,.pointer none,.slice none 0 0,.pointer none,.int .i64 0,.int .i64 0,.int .i64 0,.int .i64 0,.int .i64 0,.int .i64 0,.int .i64 0] 88)).cell? ⟨g,9,none⟩=some (.int .i64 D):=Zf a 9;have L:(w.alloc (.cells #[.slice none 0 0,.pointer none,.slice none 0 0,.pointer none,.int .i64 0,.int .i64 0,.int .i64 0,.int .i64 0,.int .i64 0,.int .i64 0,.int .i64 0] 88)).cell? ⟨g,10,none⟩=some (.int .i64 (f4:Int)):=Zf a 10;obtain ⟨X,i⟩:∃X:Array Value,#[.slice C l.length z,.pointer tp,.slice A (Zl (Zp l)).length G,.pointer fp,.int .i64 0,.int .i64 0,.int .i64 f0,.int .i64 f1,.int .i64 y,.int .i64 D,.int .i64 (f4:Int)]=X:=⟨_,rfl⟩;have c:X.size=11:=by rw [<- i];rfl
  have f:X.all (·.oneCell')=true:=by rw [<- i];simp [Value.oneCell']
  have r:(w.alloc (.cells #[.slice none 0 0,.pointer none,.slice none 0 0,.pointer none,.int .i64 0,.int .i64 0,.int .i64 0,.int .i64 0,.int .i64 0,.int .i64 0,.int .i64 0] 88)).heap[w.heap.size]? = some (.cells #[.slice none 0 0,.pointer none,.slice none 0 0,.pointer none,.int .i64 0,.int .i64 0,.int .i64 0,.int .i64 0,.int .i64 0,.int .i64 0,.int .i64 0] 88 (0,0)):=heap_alloc_new _ _;have hi:(prog.info? 88).map (·.size)=some X.size:=by rw [c];exact Zt9
  have u:=Y4 (setRow_heap (w.alloc (.cells #[.slice none 0 0,.pointer none,.slice none 0 0,.pointer none,.int .i64 0,.int .i64 0,.int .i64 0,.int .i64 0,.int .i64 0,.int .i64 0,.int .i64 0] 88)) w.heap.size _ X _ _ r);have e:Below w.heap.size w ((w.alloc (.cells #[.slice none 0 0,.pointer none,.slice none 0 0,.pointer none,.int .i64 0,.int .i64 0,.int .i64 0,.int .i64 0,.int .i64 0,.int .i64 0,.int .i64 0] 88)).setRow w.heap.size X):=d.trans ⟨rfl,rfl,rfl,by simp [World.setRow],fun k hk=>setRow_other _ _ k X (by omega)⟩;have M:=Y4 (m.below e);have o:=Y4 e;have E:=Y4 hi;have t:Y5 ((#[.slice none 0 0,.pointer none,.slice none 0 0,.pointer none,.int .i64 0,.int .i64 0,.int .i64 0,.int .i64 0,.int .i64 0,.int .i64 0,.int .i64 0]:Array Value).size=X.size):=Y4 (by rw [c];rfl);have n:=Y4 f;have J:=Y4 r;have B:=Y4 i;clear e d j a m x i r hi f c;go_enter func57,ntmps57;go_wp2_with (go_loud (refine wpList_store_row rfl 88 (.tmp 2) (.tmp 8) rfl w.heap.size X rfl (by rw [<- B.z];rfl) 88 #[.slice none 0 0,.pointer none,.slice none 0 0,.pointer none,.int .i64 0,.int .i64 0,.int .i64 0,.int .i64 0,.int .i64 0,.int .i64 0,.int .i64 0] J.z E.z t.z n.z ?_))
  refine bodyPost_ret (v:=.agg X) (results_cell_row rfl _ _ w.heap.size 88 X (0,0) _ rfl u.z underlying88 rfl E.z) rfl ⟨_,_,_,_,by rw [<- B.z],M.z,o.z⟩
