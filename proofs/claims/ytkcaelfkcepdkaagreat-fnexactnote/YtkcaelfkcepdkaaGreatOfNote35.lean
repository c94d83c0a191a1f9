/-
  The program's copyOfWorld.
-/
import Derived.Test.YtkcaelfkcepdkaaGreatOfNote31
import Derived.Test.YtkcaelfkcepdkaaGreatOfNote32
import Derived.Test.YtkcaelfkcepdkaaGreatOfNote33
import Derived.Test.YtkcaelfkcepdkaaGreatOfNote29
import Derived.Test.YtkcaelfkcepdkaaGreatOfNote34
import Derived.Test.YtkcaelfkcepdkaaGreatOfNote9
namespace Go.Proofs.YtkcaelfkcepdkaaGreat
set_option maxRecDepth 100000
set_option maxHeartbeats 8000000
section
open Go.RowKit

def Flt (w:World) (A:Array Value) (X m:Nat) (cv av lv:Value) (D:Wd) (u:World):Prop:=
 Below w.heap.size w u/\Ai 37 u w.heap.size A/\Ai 37 u (w.heap.size+1) #[.int .i64 0, .slice none 0 0, .slice none 0 0, .slice none 0 0, .slice none 0 0, .slice none 0 0]/\(w.heap.size+2<=X/\X<m/\m<=u.heap.size)∧
  ∃a4 b4 a7 b7 a10 b10:Nat,Ar u a4 b4 117 5 cv D.cs.length (D.cs.map AM).flatten/\Ar u a7 b7 141 4 av D.ds.length (Au D.ds)/\Ar u a10 b10 121 2 lv D.ls.length (D.ls.map AN).flatten∧
   (w.heap.size+2<=a4/\a4<=b4/\b4<=m)/\(w.heap.size+2<=a7/\a7<=b7/\b7<=m)/\(w.heap.size+2<=a10/\a10<=b10/\b10<=m)/\(b4<=a7∨b7<=a4)/\(b4<=a10∨b10<=a4)/\(b7<=a10∨b10<=a7)/\∀g,wrB cv g∨wrB av g∨wrB lv g->g≠X
theorem Flt.step {w u u' :World} {A:Array Value} {X m:Nat} {cv av lv:Value} {D:Wd} (h:Flt w A X m cv av lv D u) (hb:Below u.heap.size u u'):Flt w A X m cv av lv D u' :=by
 obtain⟨h1,h2,h3,h4,a4,b4,a7,b7,a10,b10,o4,o7,o10,r⟩:=h
 exact⟨Below.and h1 hb,h2.step hb,h3.step hb,⟨h4.1,h4.2.1,Nat.le_trans h4.2.2 hb.size⟩,a4,b4,a7,b7,a10,b10,o4.below hb,o7.below hb,o10.below hb,r⟩
theorem Flt.setX {w u u' :World} {A:Array Value} {X m:Nat} {cv av lv:Value} {D:Wd} (h:Flt w A X m cv av lv D u) (hc:Chg (fun g=>g=X) u u'):Flt w A X m cv av lv D u' :=by
 obtain⟨h1,h2,h3,h4,a4,b4,a7,b7,a10,b10,o4,o7,o10,r4,r7,r10,p1,p2,p3,hx⟩:=h
 exact⟨h1.trans (hc.below (fun g _ hg=>by omega) h1.size),Al h2 hc (by omega),Al h3 hc (by omega),⟨h4.1,h4.2.1,Nat.le_trans h4.2.2 hc.size⟩,a4,b4,a7,b7,a10,b10,
  ⟨o4.1.chg hc (fun g hg=>hx g (.inl hg)),o4.2⟩,⟨o7.1.chg hc (fun g hg=>hx g (.inr (.inl hg))),o7.2⟩,⟨o10.1.chg hc (fun g hg=>hx g (.inr (.inr hg))),o10.2⟩,r4,r7,r10,p1,p2,p3,hx⟩
theorem Flt.chgM {w u u' :World} {A:Array Value} {X m:Nat} {cv av lv:Value} {D:Wd} {P:Nat->Prop} (h:Flt w A X m cv av lv D u) (hc:Chg P u u') (hP:∀g,P g->m<=g):Flt w A X m cv av lv D u' :=by
 obtain⟨h1,h2,h3,h4,a4,b4,a7,b7,a10,b10,o4,o7,o10,r4,r7,r10,r⟩:=h
 exact⟨h1.trans (hc.below (fun g _ hg=>by have:=hP g hg;omega) h1.size),Al h2 hc (fun hg=>by have:=hP _ hg;omega),Al h3 hc (fun hg=>by have:=hP _ hg;omega),⟨h4.1,h4.2.1,Nat.le_trans h4.2.2 hc.size⟩,a4,b4,a7,b7,a10,b10,
  o4.chg hc (fun g _ _ hg=>by have:=hP g hg;omega),o7.chg hc (fun g _ _ hg=>by have:=hP g hg;omega),o10.chg hc (fun g _ _ hg=>by have:=hP g hg;omega),r4,r7,r10,r⟩
theorem LsI.flat {ε :Type} {cs: ε ->List Value} {d: ε} {ty K:Nat} {w:World} {lo hi:Nat} {v:Value} {es:List ε} (h:Ar w lo hi ty K v es.length (es.map cs).flatten) (h1:lo<=hi) (h2:hi<=w.heap.size):LsI cs noI d ty K w lo hi v es:=
 ⟨h.1,h.2,h1,h2,fun _=>lo,fun _=>lo,fun i _=>⟨Nat.le_refl _,Nat.le_refl _,h1,trivial,fun g g1 g2=>absurd g2 (by omega)⟩,fun _ _ _ _=>Nat.le_refl _⟩
theorem Ee.srcs {n:Nat} {w:World} {F:Nat->Prop} {N:BP} {D:Rd} (h:Ee n w F N D):∃F1:Nat->Prop,Src true n w F1 N.s.x D.T:=by
 obtain⟨A,_,_,_,o2⟩:=h
 exact⟨A 1,⟨fun _=>o2.1,o2.1.treeF⟩⟩
theorem Eg.srcs {n:Nat} {w:World} {F:Nat->Prop} {N:AL} {D:Nd} (h:Eg n w F N D):∃F1 F2:Nat->Prop,Src true n w F1 N.s.x D.T1/\Src true n w F2 N.o.x D.T2:=by
 obtain⟨A,_,_,_,o2,_,_,_,o6⟩:=h
 exact⟨A 1,A 5,⟨fun _=>o2.1,o2.1.treeF⟩,⟨fun _=>o6.1,o6.1.treeF⟩⟩
theorem Ow (args:Array Value) (w:World):(callFunc 83 args).run Tryz.prog w= .ok (.enter 83 args) w:=by go_simp
theorem Q8 (args:Array Value) (w:World):(callFunc 84 args).run Tryz.prog w= .ok (.enter 84 args) w:=by go_simp
theorem D9 {P:Program} {o:Oper} {a:Act} {w:World} {K:Act->World->Prop} {Q:Exit->Act->World->Prop} (t e:TypeId) (len:Nat) (parts:Array (Nat × Operand)) (ho:o.op= .buildSlice t len parts)
  (hu:P.underlying t=some (.slice e)) (cells:Array Value) (hf:P.builtSlice e len (parts.map fun (i,x)=>(i,a.eval x)).toList=some cells)
  (h:K (a.put o.dst (.slice (some ⟨w.heap.size,0,none⟩) len len)) (w.alloc (.cells cells e))):o.wp P a w K Q:=by
 unfold Program.builtSlice at hf
 cases hie:P.info? e with
 |none=>simp[hie] at hf
 |some ie=>
  simp only[hie] at hf
  cases hz:ie.zero with
  |none=>simp[hz] at hf
  |some z=>
   simp only[hz] at hf
   by_cases hc:len*ie.size>2^24∨len*ie.size=0
   ·simp[hc] at hf
   ·rw[if_neg hc] at hf
    exact Go.wp_buildSlice t e len parts ho cells ie z hu hie hz (fun h' =>hc (Or.inl h')) (fun h' =>hc (Or.inr h')) hf h
theorem Hn {w:World} {B b e s n t:Nat} {A:Array Value} {v:Value} {xs:List Value} (hm:Ai t w B A) (h:Ac w b e s v n xs) (ht:t≠e) (g:Nat) (hg:wrB v g):g≠B:=by
 rintro rfl
 obtain⟨cur,hc⟩:=N5 h hg
 rw[show w.heap[g]? =_ from hm] at hc
 simp at hc
 exact ht hc.2

theorem Ic (n:Nat) (W:WrV) (D:Wd) (lo hi:Nat) (w:World) (h:WrI n w lo hi W D) (hs:D.small n) :
  Calls Tryz.prog 34 #[W.val] w fun e w' =>∃(V:WrV) (E:Wd),e= .returned V.val/\W.sz=V.sz/\D.like E/\WrI n w' w.heap.size w'.heap.size V E/\Below w.heap.size w w' :=by
 have hat:=h.at
 obtain⟨sz,nv,rv,cv,av,lv⟩:=W
 obtain⟨q0,q1,q2,q3,q4⟩:=hat
 simp only at q0 q1 q2 q3 q4
 have HNA:Hid (∀j (hj:j<D.ns.length),∃F,Eg n w F D.ns[j].1 D.ns[j].2):=by
  obtain⟨_,_,_,_,_,⟨_,_,_,_,_,_,h3,_⟩,_⟩:=h
  exact fun j hj=>⟨_,by have:=(h3 j hj).2.2.2.1;simp only[List.getD,List.getElem?_eq_getElem hj,Option.getD_some] at this;exact this⟩
 obtain⟨a0,b0,off0,p0,rfl,hc0,hm0,ha0,rg0⟩:=q0.parts (K:=23) (fun _=>rfl)
 obtain⟨a1,b1,off1,p1,rfl,hc1,hm1,ha1,rg1⟩:=q1.parts (K:=15) (fun _=>rfl)
 have HA:=hq ha0
 have RG:=hq rg0
 have HA1:=hq ha1
 have RG1:=hq rg1
 clear ha0 rg0 hc0 hm0 ha1 rg1 hc1 hm1 q0 q1;have CN:Hid (∀j (hj:j<D.ns.length) (u:World),Below w.heap.size w u->Calls Tryz.prog 83 #[D.ns[j].1.val] u fun e w' =>∃M:AL,e= .returned M.val/\D.ns[j].1.like M/\FZ n w' u.heap.size M D.ns[j].2/\Below u.heap.size u w'):=fun j hj u hu=>by
  obtain⟨F,hF⟩:=HNA.out j hj
  have hF:=hF.below hu
  obtain⟨F1,F2,s1,s2⟩:=hF.srcs
  exact Fk n _ _ true F1 F2 u hF.at (hs.n1 _ (List.getElem_mem hj)) s1 s2 (fun e=>by cases e)
 have ON1:Hid (∀j (hj:j<D.ns.length),(Ax D.ns[j]).toArray.all (·.oneCell')=true):=fun j hj=>by
  obtain⟨F,hF⟩:=HNA.out j hj
  exact hF.at.ones
 have HRA:Hid (∀j (hj:j<D.rs.length),∃F,Ee n w F D.rs[j].1 D.rs[j].2):=by
  obtain⟨_,_,_,_,_,_,⟨_,_,_,_,_,_,h3,_⟩,_⟩:=h
  exact fun j hj=>⟨_,by have:=(h3 j hj).2.2.2.1;simp only[List.getD,List.getElem?_eq_getElem hj,Option.getD_some] at this;exact this⟩
 have CR:Hid (∀j (hj:j<D.rs.length) (u:World),Below w.heap.size w u->Calls Tryz.prog 84 #[D.rs[j].1.val] u fun e w' =>∃M:BP,e= .returned M.val/\D.rs[j].1.like M/\EJ n w' u.heap.size M D.rs[j].2/\Below u.heap.size u w'):=fun j hj u hu=>by
  obtain⟨F,hF⟩:=HRA.out j hj
  have hF:=hF.below hu
  obtain⟨F1,s1⟩:=hF.srcs
  exact Jb n _ _ F1 u hF.at (hs.r1 _ (List.getElem_mem hj)) s1
 have ON2:Hid (∀j (hj:j<D.rs.length),(AU D.rs[j]).toArray.all (·.oneCell')=true):=fun j hj=>by
  obtain⟨F,hF⟩:=HRA.out j hj
  exact hF.at.ones
 clear HNA HRA h;obtain⟨n2,hz⟩:=q2.1.sl
 subst hz;obtain⟨n3,hz⟩:=q3.sl
 subst hz;obtain⟨n4,hz⟩:=q4.1.sl
 subst hz;have C4:=hq (fun (u:World) (hu:Below w.heap.size w u)=>MT (.slice n2.1 n2.2.1 n2.2.2) D.cs.length (D.cs.map AM).flatten u (q2.1.below hu) (by rw[(B8 (K:=5) (cs:=AM) (fun _=>rfl) D.cs).len,List.length_map]) (by intro y hy;obtain⟨l,hl,hy⟩:=List.mem_flatten.1 hy;obtain⟨e,_,rfl⟩:=List.mem_map.1 hl;simp[AM] at hy;rcases hy with rfl|rfl|rfl|rfl|rfl<;>rfl) (by have:=hs.c;omega))
 have C7:=hq (fun (u:World) (hu:Below w.heap.size w u)=>IH (.slice n3.1 n3.2.1 n3.2.2) D.ds.length (Au D.ds) u (q3.below hu) (Cm _) (EC _) (by have:=hs.d;omega))
 have C10:=hq (fun (u:World) (hu:Below w.heap.size w u)=>Mx (.slice n4.1 n4.2.1 n4.2.2) D.ls.length (D.ls.map AN).flatten u (q4.1.below hu) (by rw[(B8 (K:=2) (cs:=AN) (fun _=>rfl) D.ls).len,List.length_map]) (by intro y hy;obtain⟨l,hl,hy⟩:=List.mem_flatten.1 hy;obtain⟨e,_,rfl⟩:=List.mem_map.1 hl;simp[AN] at hy;rcases hy with rfl|rfl<;>rfl) (by have:=hs.l;omega))
 have b0:Below w.heap.size w ((w.alloc (.cells #[.int .i64 sz, .slice a0 D.ns.length p0, .slice a1 D.rs.length p1, .slice n2.1 n2.2.1 n2.2.2, .slice n3.1 n3.2.1 n3.2.2, .slice n4.1 n4.2.1 n4.2.2] 37)).alloc (.cells #[.int .i64 0, .slice none 0 0, .slice none 0 0, .slice none 0 0, .slice none 0 0, .slice none 0 0] 37)):=Below.and (Ae _ _) (Ae _ _)
 have m0:=Ai.step (Ai.start 37 w #[.int .i64 sz, .slice a0 D.ns.length p0, .slice a1 D.rs.length p1, .slice n2.1 n2.2.1 n2.2.2, .slice n3.1 n3.2.1 n3.2.2, .slice n4.1 n4.2.1 n4.2.2]) (Ae _ (.cells #[.int .i64 0, .slice none 0 0, .slice none 0 0, .slice none 0 0, .slice none 0 0, .slice none 0 0] 37))
 have m1:=Ai.start 37 (w.alloc (.cells #[.int .i64 sz, .slice a0 D.ns.length p0, .slice a1 D.rs.length p1, .slice n2.1 n2.2.1 n2.2.2, .slice n3.1 n3.2.1 n3.2.2, .slice n4.1 n4.2.1 n4.2.2] 37)) #[.int .i64 0, .slice none 0 0, .slice none 0 0, .slice none 0 0, .slice none 0 0, .slice none 0 0]
 simp only[World.size_alloc] at m1
 have B0:=hq b0
 have M0:=hq m0
 have M1:=hq m1
 have ZZ:Hid (w.heap.size+2=((w.alloc (.cells #[.int .i64 sz, .slice a0 D.ns.length p0, .slice a1 D.rs.length p1, .slice n2.1 n2.2.1 n2.2.2, .slice n3.1 n3.2.1 n3.2.2, .slice n4.1 n4.2.1 n4.2.2] 37)).alloc (.cells #[.int .i64 0, .slice none 0 0, .slice none 0 0, .slice none 0 0, .slice none 0 0, .slice none 0 0] 37)).heap.size):=by show _=_;simp
 clear b0 m0 m1;show Calls Tryz.prog 34 #[.agg #[.int .i64 sz, .slice a0 D.ns.length p0, .slice a1 D.rs.length p1, .slice n2.1 n2.2.1 n2.2.2, .slice n3.1 n3.2.1 n3.2.2, .slice n4.1 n4.2.1 n4.2.2]] w _
 go_enter Tryz.func34,Tryz.ntmps34
 go_upto_region 1 with fail
 generalize ((w.alloc (.cells #[.int .i64 sz, .slice a0 D.ns.length p0, .slice a1 D.rs.length p1, .slice n2.1 n2.2.1 n2.2.2, .slice n3.1 n3.2.1 n3.2.2, .slice n4.1 n4.2.1 n4.2.2] 37)).alloc (.cells #[.int .i64 0, .slice none 0 0, .slice none 0 0, .slice none 0 0, .slice none 0 0, .slice none 0 0] 37))=V0 at *
 go_cut [3] (fun s3 wx=>∃(X m:Nat) (z4 z7 z10:Option Addr × Nat × Nat),s3= .pointer (some ⟨X,0,none⟩)/\Hid (Flt w #[.int .i64 sz, .slice a0 D.ns.length p0, .slice a1 D.rs.length p1, .slice n2.1 n2.2.1 n2.2.2, .slice n3.1 n3.2.1 n3.2.2, .slice n4.1 n4.2.1 n4.2.2] X m (.slice z4.1 z4.2.1 z4.2.2) (.slice z7.1 z7.2.1 z7.2.2) (.slice z10.1 z10.2.1 z10.2.2) D wx)/\Hid (Ai 37 wx X #[.int .i64 sz, .slice none 0 0, .slice none 0 0, .slice z4.1 z4.2.1 z4.2.2, .slice z7.1 z7.2.1 z7.2.2, .slice z10.1 z10.2.1 z10.2.2]))
 case first=>
  refine Bx (fun u=>Ltp V0.drew u) [_,_,_,_,_,_,_,_,_,_,_,_,_] _ rfl (by kernel_rfl) (by kernel_rfl) ?_
  refine J8 (w0:=V0.drew) (Φ :=(fun k v x y u=>match k with
   |0=>v= .pointer (some ⟨w.heap.size,0,none⟩)
   |1=>v= .int .i64 sz
   |2=>v= .pointer (some ⟨w.heap.size,3,none⟩)
   |3=>v= .slice n2.1 n2.2.1 n2.2.2
   |4=>∃z:Option Addr × Nat × Nat,v= .slice z.1 z.2.1 z.2.2/\Ar u x y 117 5 (.slice z.1 z.2.1 z.2.2) D.cs.length (D.cs.map AM).flatten
   |5=>v= .pointer (some ⟨w.heap.size,4,none⟩)
   |6=>v= .slice n3.1 n3.2.1 n3.2.2
   |7=>∃z:Option Addr × Nat × Nat,v= .slice z.1 z.2.1 z.2.2/\Ar u x y 141 4 (.slice z.1 z.2.1 z.2.2) D.ds.length (Au D.ds)
   |8=>v= .pointer (some ⟨w.heap.size,5,none⟩)
   |9=>v= .slice n4.1 n4.2.1 n4.2.2
   |10=>∃z:Option Addr × Nat × Nat,v= .slice z.1 z.2.1 z.2.2/\Ar u x y 121 2 (.slice z.1 z.2.1 z.2.2) D.ls.length (D.ls.map AN).flatten
   |11=>∃(z4 z7 z10:Option Addr × Nat × Nat) (a4 b4 a7 b7 a10 b10:Nat),v= .agg #[.int .i64 sz, .slice none 0 0, .slice none 0 0, .slice z4.1 z4.2.1 z4.2.2, .slice z7.1 z7.2.1 z7.2.2, .slice z10.1 z10.2.1 z10.2.2]/\Ar u a4 b4 117 5 (.slice z4.1 z4.2.1 z4.2.2) D.cs.length (D.cs.map AM).flatten/\Ar u a7 b7 141 4 (.slice z7.1 z7.2.1 z7.2.2) D.ds.length (Au D.ds)/\Ar u a10 b10 121 2 (.slice z10.1 z10.2.1 z10.2.2) D.ls.length (D.ls.map AN).flatten/\(V0.heap.size<=a4/\a4<=b4/\b4<=x)/\(V0.heap.size<=a7/\a7<=b7/\b7<=x)/\(V0.heap.size<=a10/\a10<=b10/\b10<=x)/\(b4<=a7∨b7<=a4)/\(b4<=a10∨b10<=a4)/\(b7<=a10∨b10<=a7)
   |12=>v= .pointer (some ⟨x,0,none⟩)/\x<y/\Ai 37 u x #[.int .i64 0, .slice none 0 0, .slice none 0 0, .slice none 0 0, .slice none 0 0, .slice none 0 0]
   |_=>True)) (N:=51) (by kernel_rfl) ?stab rfl ?step ?fin
  case stab=>
   intro k v x y u u' hp hl;rcases k with _|_|_|_|_|_|_|_|_|_|_|_|_|k
   ·exact hp
   ·exact hp
   ·exact hp
   ·exact hp
   ·obtain⟨z,e,ho⟩:=hp
    exact⟨z,e,ho.below hl⟩
   ·exact hp
   ·exact hp
   ·obtain⟨z,e,ho⟩:=hp
    exact⟨z,e,ho.below hl⟩
   ·exact hp
   ·exact hp
   ·obtain⟨z,e,ho⟩:=hp
    exact⟨z,e,ho.below hl⟩
   ·obtain⟨z4,z7,z10,a4,b4,a7,b7,a10,b10,e,o4,o7,o10,r⟩:=hp
    exact⟨z4,z7,z10,a4,b4,a7,b7,a10,b10,e,o4.below hl,o7.below hl,o10.below hl,r⟩
   ·obtain⟨e,hxy,ho⟩:=hp
    exact⟨e,hxy,ho.step hl⟩
   ·trivial
  case step=>
   intro i o ho ρ v x y u hu hv hf hpw hz hc;have hu2:Below V0.heap.size V0 u:=(Below.refl V0.heap.size V0).drew.trans hu
   have cc:∀j,u.cell? ⟨w.heap.size,j,none⟩=(#[.int .i64 sz, .slice a0 D.ns.length p0, .slice a1 D.rs.length p1, .slice n2.1 n2.2.1 n2.2.2, .slice n3.1 n3.2.1 n3.2.2, .slice n4.1 n4.2.1 n4.2.2]:Array Value)[j]? :=(M0.out.step hu2).cells
   have bw:Below w.heap.size w u:=B0.out.trans (hu2.mono B0.out.size)
   have cell:∀j,u.cell? ⟨w.heap.size,j,none⟩=(#[.int .i64 sz, .slice a0 D.ns.length p0, .slice a1 D.rs.length p1, .slice n2.1 n2.2.1 n2.2.2, .slice n3.1 n3.2.1 n3.2.2, .slice n4.1 n4.2.1 n4.2.2]:Array Value)[j]? :=cc
   have hi13:i<13:=(List.getElem?_eq_some_iff.1 ho).1
   rcases i with _|_|_|_|_|_|_|_|_|_|_|_|_|i
   ·simp only[List.getElem?_cons_zero,Option.some.injEq] at ho
    subst ho;have e1: ρ (.tmp 1)= .pointer (some ⟨w.heap.size,0,none⟩):=(hz 1 (by kernel_rfl)).trans rfl
    exact AV.value (v:= .pointer (some ⟨w.heap.size,0,none⟩)) (w' :=u) (by go_simp) ⟨Ltp.refl _,rfl⟩
   ·simp only[List.getElem?_cons_succ,List.getElem?_cons_zero,Option.some.injEq] at ho
    subst ho;have e0:=(hv 0 8 (by decide) (by kernel_rfl) (by kernel_rfl) (by decide)).trans (hf 0 (by decide) (by kernel_rfl)).1
    have c0:=cc 0
    exact AV.value (v:= .int .i64 sz) (w' :=u) (by go_simp) ⟨Ltp.refl _,rfl⟩
   ·simp only[List.getElem?_cons_succ,List.getElem?_cons_zero,Option.some.injEq] at ho
    subst ho;have e1: ρ (.tmp 1)= .pointer (some ⟨w.heap.size,0,none⟩):=(hz 1 (by kernel_rfl)).trans rfl
    exact AV.value (v:= .pointer (some ⟨w.heap.size,3,none⟩)) (w' :=u) (by go_simp) ⟨Ltp.refl _,rfl⟩
   ·simp only[List.getElem?_cons_succ,List.getElem?_cons_zero,Option.some.injEq] at ho
    subst ho;have e0:=(hv 2 10 (by decide) (by kernel_rfl) (by kernel_rfl) (by decide)).trans (hf 2 (by decide) (by kernel_rfl)).1
    have c0:=cc 3
    exact AV.value (v:= .slice n2.1 n2.2.1 n2.2.2) (w' :=u) (by go_simp) ⟨Ltp.refl _,rfl⟩
   ·simp only[List.getElem?_cons_succ,List.getElem?_cons_zero,Option.some.injEq] at ho
    subst ho;have e0:=(hv 3 11 (by decide) (by kernel_rfl) (by kernel_rfl) (by decide)).trans (hf 3 (by decide) (by kernel_rfl)).1
    refine AV.enter (f:=80) (args:= #[.slice n2.1 n2.2.1 n2.2.2]) (w' :=u) (by go_simp) ((C4.out u bw).mono ?_)
    rintro e u2 ⟨r,rfl,ro,rb⟩
    obtain⟨ra,rq,rfl⟩:=ro.slice
    exact⟨_,rfl,rb,(ra,_,rq),rfl,Ar.made ro⟩
   ·simp only[List.getElem?_cons_succ,List.getElem?_cons_zero,Option.some.injEq] at ho
    subst ho;have e1: ρ (.tmp 1)= .pointer (some ⟨w.heap.size,0,none⟩):=(hz 1 (by kernel_rfl)).trans rfl
    exact AV.value (v:= .pointer (some ⟨w.heap.size,4,none⟩)) (w' :=u) (by go_simp) ⟨Ltp.refl _,rfl⟩
   ·simp only[List.getElem?_cons_succ,List.getElem?_cons_zero,Option.some.injEq] at ho
    subst ho;have e0:=(hv 5 13 (by decide) (by kernel_rfl) (by kernel_rfl) (by decide)).trans (hf 5 (by decide) (by kernel_rfl)).1
    have c0:=cc 4
    exact AV.value (v:= .slice n3.1 n3.2.1 n3.2.2) (w' :=u) (by go_simp) ⟨Ltp.refl _,rfl⟩
   ·simp only[List.getElem?_cons_succ,List.getElem?_cons_zero,Option.some.injEq] at ho
    subst ho;have e0:=(hv 6 14 (by decide) (by kernel_rfl) (by kernel_rfl) (by decide)).trans (hf 6 (by decide) (by kernel_rfl)).1
    refine AV.enter (f:=81) (args:= #[.slice n3.1 n3.2.1 n3.2.2]) (w' :=u) (by go_simp) ((C7.out u bw).mono ?_)
    rintro e u2 ⟨r,rfl,ro,rb⟩
    obtain⟨ra,rq,rfl⟩:=ro.slice
    exact⟨_,rfl,rb,(ra,_,rq),rfl,Ar.made ro⟩
   ·simp only[List.getElem?_cons_succ,List.getElem?_cons_zero,Option.some.injEq] at ho
    subst ho;have e1: ρ (.tmp 1)= .pointer (some ⟨w.heap.size,0,none⟩):=(hz 1 (by kernel_rfl)).trans rfl
    exact AV.value (v:= .pointer (some ⟨w.heap.size,5,none⟩)) (w' :=u) (by go_simp) ⟨Ltp.refl _,rfl⟩
   ·simp only[List.getElem?_cons_succ,List.getElem?_cons_zero,Option.some.injEq] at ho
    subst ho;have e0:=(hv 8 16 (by decide) (by kernel_rfl) (by kernel_rfl) (by decide)).trans (hf 8 (by decide) (by kernel_rfl)).1
    have c0:=cc 5
    exact AV.value (v:= .slice n4.1 n4.2.1 n4.2.2) (w' :=u) (by go_simp) ⟨Ltp.refl _,rfl⟩
   ·simp only[List.getElem?_cons_succ,List.getElem?_cons_zero,Option.some.injEq] at ho
    subst ho;have e0:=(hv 9 17 (by decide) (by kernel_rfl) (by kernel_rfl) (by decide)).trans (hf 9 (by decide) (by kernel_rfl)).1
    refine AV.enter (f:=82) (args:= #[.slice n4.1 n4.2.1 n4.2.2]) (w' :=u) (by go_simp) ((C10.out u bw).mono ?_)
    rintro e u2 ⟨r,rfl,ro,rb⟩
    obtain⟨ra,rq,rfl⟩:=ro.slice
    exact⟨_,rfl,rb,(ra,_,rq),rfl,Ar.made ro⟩
   ·simp only[List.getElem?_cons_succ,List.getElem?_cons_zero,Option.some.injEq] at ho
    subst ho;have e1:=(hv 1 9 (by decide) (by kernel_rfl) (by kernel_rfl) (by decide)).trans (hf 1 (by decide) (by kernel_rfl)).1
    obtain⟨⟨z4,h4,k4⟩,t4⟩:=hf 4 (by decide) (by kernel_rfl)
    have e4:=(hv 4 12 (by decide) (by kernel_rfl) (by kernel_rfl) (by decide)).trans h4
    obtain⟨⟨z7,h7,k7⟩,t7⟩:=hf 7 (by decide) (by kernel_rfl)
    have e7:=(hv 7 15 (by decide) (by kernel_rfl) (by kernel_rfl) (by decide)).trans h7
    obtain⟨⟨z10,h10,k10⟩,t10⟩:=hf 10 (by decide) (by kernel_rfl)
    have e10:=(hv 10 18 (by decide) (by kernel_rfl) (by kernel_rfl) (by decide)).trans h10
    exact AV.value (v:= .agg #[.int .i64 sz, .slice none 0 0, .slice none 0 0, .slice z4.1 z4.2.1 z4.2.2, .slice z7.1 z7.2.1 z7.2.2, .slice z10.1 z10.2.1 z10.2.2]) (w' :=u) (by go_simp) ⟨Ltp.refl _,z4,z7,z10,x 4,y 4,x 7,y 7,x 10,y 10,rfl,k4,k7,k10,t4,t7,t10,hpw 4 7 (by decide) (by decide) (by kernel_rfl) (by kernel_rfl) (by decide),hpw 4 10 (by decide) (by decide) (by kernel_rfl) (by kernel_rfl) (by decide),hpw 7 10 (by decide) (by decide) (by kernel_rfl) (by kernel_rfl) (by decide)⟩
   ·simp only[List.getElem?_cons_succ,List.getElem?_cons_zero,Option.some.injEq] at ho
    subst ho;exact AV.value (v:= .pointer (some ⟨u.heap.size,0,none⟩)) (w' :=u.alloc (.cells #[.int .i64 0, .slice none 0 0, .slice none 0 0, .slice none 0 0, .slice none 0 0, .slice none 0 0] 37)) (by go_simp) ⟨Ae _ _,rfl,by simp,Ai.start _ _ _⟩
   ·exact absurd hi13 (by omega)
  case fin=>
   intro v x y u hu ht hf;have h11:=hf 11 (by decide)
   have h12:=hf 12 (by decide)
   have t12:=ht.1 12 (by decide) rfl
   have t11:=ht.1 11 (by decide) rfl
   show Oper.wp _ _ _ _ _ _
   simp only[Dm,Ef,List.getElem?_cons_zero,List.getElem?_cons_succ,Option.bind_some,if_true,List.length_cons,List.length_nil,Act.put,List.setIfInBounds_toArray,List.set_cons_zero,List.set_cons_succ]
   clear hf ht;refine h11.elim fun z4 h11=>h11.elim fun z7 h11=>h11.elim fun z10 h11=>h11.elim fun a4 h11=>h11.elim fun b4 h11=>h11.elim fun a7 h11=>h11.elim fun b7 h11=>h11.elim fun a10 h11=>h11.elim fun b10 h11=> ?_
   have e11:=h11.1
   have e12:=h12.1
   have g11:=Aj h11.2
   have m12:=h12.2.2
   have l12:=Aj h12.2.1
   have t12:=Aj t12
   have t11:=Aj t11
   clear h11 h12;rw[e11,e12]
   clear e11 e12;generalize x 12=X at *
   have bw:Hid (Below w.heap.size w u):=B0.out.trans ((((Below.refl V0.heap.size V0).drew.trans hu)).mono B0.out.size)
   have hu2:Hid (Below V0.heap.size V0 u):=(Below.refl V0.heap.size V0).drew.trans hu
   have FU:Hid (Flt w #[.int .i64 sz, .slice a0 D.ns.length p0, .slice a1 D.rs.length p1, .slice n2.1 n2.2.1 n2.2.2, .slice n3.1 n3.2.1 n3.2.2, .slice n4.1 n4.2.1 n4.2.2] X u.heap.size (.slice z4.1 z4.2.1 z4.2.2) (.slice z7.1 z7.2.1 z7.2.2) (.slice z10.1 z10.2.1 z10.2.2) D u):=by
    obtain⟨o4,o7,o10,t4,t7,t10,p1,p2,p3⟩:=g11.out
    have s0:=ZZ.out
    have s1:V0.heap.size<=X:=t12.out.1
    have s2:=l12.out
    have s3:=t12.out.2.2
    have s4:=t11.out.2.1
    have s5:=t11.out.2.2
    refine⟨bw.out,M0.out.step hu2.out,M1.out.step hu2.out,⟨by omega,by omega,Nat.le_refl _⟩,a4,b4,a7,b7,a10,b10,o4,o7,o10,⟨by omega,by omega,by omega⟩,⟨by omega,by omega,by omega⟩,⟨by omega,by omega,by omega⟩,p1,p2,p3, ?_⟩
    rintro g (hg|hg|hg)
    ·exact Hn m12 o4.1 (by decide) g hg
    ·exact Hn m12 o7.1 (by decide) g hg
    ·exact Hn m12 o10.1 (by decide) g hg
   have hu:=Aj hu
   have fz:∀j,u.frozen? ⟨X,j,none⟩=false:=fun j=>Ab m12
   have dz:∀j,u.cell? ⟨X,j,none⟩=(#[.int .i64 0, .slice none 0 0, .slice none 0 0, .slice none 0 0, .slice none 0 0, .slice none 0 0]:Array Value)[j]? :=m12.cells
   have GC:=Aj (((((((Chg.refl (fun g=>g=X) u).setAt X 0 rfl (.int .i64 sz)).setAt X 1 rfl (.slice none 0 0)).setAt X 2 rfl (.slice none 0 0)).setAt X 3 rfl (.slice z4.1 z4.2.1 z4.2.2)).setAt X 4 rfl (.slice z7.1 z7.2.1 z7.2.2)).setAt X 5 rfl (.slice z10.1 z10.2.1 z10.2.2))
   have nB:((((((u.setCell ⟨X,0,none⟩ (.int .i64 sz)).setCell ⟨X,1,none⟩ (.slice none 0 0)).setCell ⟨X,2,none⟩ (.slice none 0 0)).setCell ⟨X,3,none⟩ (.slice z4.1 z4.2.1 z4.2.2)).setCell ⟨X,4,none⟩ (.slice z7.1 z7.2.1 z7.2.2)).setCell ⟨X,5,none⟩ (.slice z10.1 z10.2.1 z10.2.2)).heap[X]? =some (.cells #[.int .i64 sz, .slice none 0 0, .slice none 0 0, .slice z4.1 z4.2.1 z4.2.2, .slice z7.1 z7.2.1 z7.2.2, .slice z10.1 z10.2.1 z10.2.2] 37 (0,0)):=heap_setCell_same _ X 5 _ _ _ (heap_setCell_same _ X 4 _ _ _ (heap_setCell_same _ X 3 _ _ _ (heap_setCell_same _ X 2 _ _ _ (heap_setCell_same _ X 1 _ _ _ (heap_setCell_same u X 0 _ _ _ m12)))))
   have nB:=Aj nB
   have m12:=Aj m12
   go_wp2_with fail;go_meet;exact⟨X,u.heap.size,z4,z7,z10,rfl,FU.out.setX GC.out,nB.out⟩
 case rest=>
  clear B0 M0 M1 ZZ C4 C7 C10;refine hcut.elim fun X hcut=>hcut.elim fun m hcut=>hcut.elim fun z4 hcut=>hcut.elim fun z7 hcut=>hcut.elim fun z10 hcut=> ?_
  have eX:=hcut.1
  have G:=hcut.2.1
  have BX:=hcut.2.2
  clear hcut;subst eX;obtain⟨i0,hi0,hz0,hz1,hz2⟩:=info_parts (show(Tryz.prog.info? 73).map (fun i=>(i.zero,i.size,i.bytes))=some (some (.agg Kr.toArray),23,408) by kernel_rfl)
  have BS:=hq (fun (ks:List Value) (hl:ks.length=23)=>Bw (P:=Tryz.prog) 73 i0 _ 23 hi0 hz0 hz1 (by decide) (by decide) ks hl)
  have cA:=G.out.2.1.cells
  go_wp2_with fail;clear cA;go_loopw [23] (fun i wr=>∃(j:Nat) (v:Value) (fs:List BH),j<=D.ns.length/\i= .int .i64 j/\Hid (Bs Dv (D.ns.take j) fs)/\Hid (Flt w #[.int .i64 sz, .slice a0 D.ns.length p0, .slice a1 D.rs.length p1, .slice n2.1 n2.2.1 n2.2.2, .slice n3.1 n3.2.1 n3.2.2, .slice n4.1 n4.2.1 n4.2.2] X m (.slice z4.1 z4.2.1 z4.2.2) (.slice z7.1 z7.2.1 z7.2.2) (.slice z10.1 z10.2.1 z10.2.2) D wr)/\Hid (LsI Ax (Fi n) Ap 73 23 wr m wr.heap.size v fs)/\Hid (Ai 37 wr X #[.int .i64 sz,v, .slice none 0 0, .slice z4.1 z4.2.1 z4.2.2, .slice z7.1 z7.2.1 z7.2.2, .slice z10.1 z10.2.1 z10.2.2]))
   (fun i _=>D.ns.length-(intOf i).toNat)
  case atStart=>exact⟨0,_,[],Nat.zero_le _,rfl,⟨by simp,fun i h=>by simp at h⟩,G.out,LsI.nil _ G.out.2.2.2.1.2.2 (Nat.le_refl _),BX.out⟩
  case round=>
   obtain⟨j,v,fs,hj,rfl,LK,G,LI,BX⟩:=hrel
   by_cases hlt:j<D.ns.length
   ·have hi2:(j:Int)<(D.ns.length:Int):=by omega
    have hal:=HA.out (by omega)
    subst hal;obtain⟨ks,hks⟩:∃ks:List Value,ks=Ax D.ns[j]:=⟨_,rfl⟩
    have hkl:ks.length=23:=by rw[hks];rfl
    have BW:=hq G.out.1
    have RU:Hid (wr.rangeAt b0 (off0+j*23) ks):=by rw[hks];exact RG.out wr BW.out j hlt
    have VE:D.ns[j].1.val= .agg ks.toArray:=by rw[hks];rfl
    have ONE:Hid (ks.toArray.all (·.oneCell')=true):=by rw[hks];exact ON1.out j hlt
    have CJ:Hid (∀u:World,Below w.heap.size w u->Calls Tryz.prog 83 #[.agg ks.toArray] u fun e w' =>∃M:AL,e= .returned M.val/\D.ns[j].1.like M/\FZ n w' u.heap.size M D.ns[j].2/\Below u.heap.size u w'):=by have h:=CN.out j hlt;rw[VE] at h;exact h
    clear VE hks;have A1:Hid (Below wr.heap.size wr (wr.alloc (.cells #[.int .i64 0, .int .i64 0, .int .i64 0, .int .i64 0, .int .i64 0, .slice none 0 0, .bool false, .slice none 0 0, .slice none 0 0, .slice none 0 0, .slice none 0 0, .slice none 0 0, .int .i64 0, .slice none 0 0, .slice none 0 0, .slice none 0 0, .int .i64 0, .bool false, .slice none 0 0, .slice none 0 0, .slice none 0 0, .slice none 0 0, .slice none 0 0] 73))):=Ae _ _
    have AY:Hid (Ai 73 (wr.alloc (.cells #[.int .i64 0, .int .i64 0, .int .i64 0, .int .i64 0, .int .i64 0, .slice none 0 0, .bool false, .slice none 0 0, .slice none 0 0, .slice none 0 0, .slice none 0 0, .slice none 0 0, .int .i64 0, .slice none 0 0, .slice none 0 0, .slice none 0 0, .int .i64 0, .bool false, .slice none 0 0, .slice none 0 0, .slice none 0 0, .slice none 0 0, .slice none 0 0] 73)) wr.heap.size #[.int .i64 0, .int .i64 0, .int .i64 0, .int .i64 0, .int .i64 0, .slice none 0 0, .bool false, .slice none 0 0, .slice none 0 0, .slice none 0 0, .slice none 0 0, .slice none 0 0, .int .i64 0, .slice none 0 0, .slice none 0 0, .slice none 0 0, .int .i64 0, .bool false, .slice none 0 0, .slice none 0 0, .slice none 0 0, .slice none 0 0, .slice none 0 0]):=Ai.start _ wr _
    have AZ:Hid (wr.heap.size+1=(wr.alloc (.cells #[.int .i64 0, .int .i64 0, .int .i64 0, .int .i64 0, .int .i64 0, .slice none 0 0, .bool false, .slice none 0 0, .slice none 0 0, .slice none 0 0, .slice none 0 0, .slice none 0 0, .int .i64 0, .slice none 0 0, .slice none 0 0, .slice none 0 0, .int .i64 0, .bool false, .slice none 0 0, .slice none 0 0, .slice none 0 0, .slice none 0 0, .slice none 0 0] 73)).heap.size):=by show _=_;simp
    have TH:Hid ((wr.alloc (.cells #[.int .i64 0, .int .i64 0, .int .i64 0, .int .i64 0, .int .i64 0, .slice none 0 0, .bool false, .slice none 0 0, .slice none 0 0, .slice none 0 0, .slice none 0 0, .slice none 0 0, .int .i64 0, .slice none 0 0, .slice none 0 0, .slice none 0 0, .int .i64 0, .bool false, .slice none 0 0, .slice none 0 0, .slice none 0 0, .slice none 0 0, .slice none 0 0] 73)).there wr.heap.size 0 ks.toArray.size):=Ba AY.out (show 23=ks.toArray.size by rw[List.size_toArray,hkl])
    have HM2:Hid ((Tryz.prog.info? 73).map (·.size)=some ks.toArray.size):=by show _=_;rw[List.size_toArray,hkl];exact(show(Tryz.prog.info? 73).map (·.size)=some 23 by kernel_rfl)
    have HM1:Hid ((Tryz.prog.info? 73).map (·.size)=some ks.length):=by show _=_;rw[hkl];exact(show(Tryz.prog.info? 73).map (·.size)=some 23 by kernel_rfl)
    have GC:Chg (fun g=>g=wr.heap.size) (wr.alloc (.cells #[.int .i64 0, .int .i64 0, .int .i64 0, .int .i64 0, .int .i64 0, .slice none 0 0, .bool false, .slice none 0 0, .slice none 0 0, .slice none 0 0, .slice none 0 0, .slice none 0 0, .int .i64 0, .slice none 0 0, .slice none 0 0, .slice none 0 0, .int .i64 0, .bool false, .slice none 0 0, .slice none 0 0, .slice none 0 0, .slice none 0 0, .slice none 0 0] 73)) ((wr.alloc (.cells #[.int .i64 0, .int .i64 0, .int .i64 0, .int .i64 0, .int .i64 0, .slice none 0 0, .bool false, .slice none 0 0, .slice none 0 0, .slice none 0 0, .slice none 0 0, .slice none 0 0, .int .i64 0, .slice none 0 0, .slice none 0 0, .slice none 0 0, .int .i64 0, .bool false, .slice none 0 0, .slice none 0 0, .slice none 0 0, .slice none 0 0, .slice none 0 0] 73)).setCells wr.heap.size 0 ks):=Chg.setCells (F:=fun g=>g=wr.heap.size) (g:=wr.heap.size) (fun _=>rfl) ks 0 _ (Chg.refl _ _)
    have XF:Hid (((wr.alloc (.cells #[.int .i64 0, .int .i64 0, .int .i64 0, .int .i64 0, .int .i64 0, .slice none 0 0, .bool false, .slice none 0 0, .slice none 0 0, .slice none 0 0, .slice none 0 0, .slice none 0 0, .int .i64 0, .slice none 0 0, .slice none 0 0, .slice none 0 0, .int .i64 0, .bool false, .slice none 0 0, .slice none 0 0, .slice none 0 0, .slice none 0 0, .slice none 0 0] 73)).setCells wr.heap.size 0 ks).heap[wr.heap.size]? =some (.cells ks.toArray 73 (0,0))):=A7 AY.out ks (by rw[hkl];rfl)
    have B3:Hid (Below wr.heap.size wr ((wr.alloc (.cells #[.int .i64 0, .int .i64 0, .int .i64 0, .int .i64 0, .int .i64 0, .slice none 0 0, .bool false, .slice none 0 0, .slice none 0 0, .slice none 0 0, .slice none 0 0, .slice none 0 0, .int .i64 0, .slice none 0 0, .slice none 0 0, .slice none 0 0, .int .i64 0, .bool false, .slice none 0 0, .slice none 0 0, .slice none 0 0, .slice none 0 0, .slice none 0 0] 73)).setCells wr.heap.size 0 ks)):=A1.out.trans (GC.below (fun g _ hg=>by omega) A1.out.size)
    have SE:Hid (wr.heap.size+1<=((wr.alloc (.cells #[.int .i64 0, .int .i64 0, .int .i64 0, .int .i64 0, .int .i64 0, .slice none 0 0, .bool false, .slice none 0 0, .slice none 0 0, .slice none 0 0, .slice none 0 0, .slice none 0 0, .int .i64 0, .slice none 0 0, .slice none 0 0, .slice none 0 0, .int .i64 0, .bool false, .slice none 0 0, .slice none 0 0, .slice none 0 0, .slice none 0 0, .slice none 0 0] 73)).setCells wr.heap.size 0 ks).heap.size):=by have:=GC.size;have:=AZ.out;show _<=_;omega
    clear GC AY AZ A1;go_upto_region 5 with(first|(refine wpList_load_mid rfl 73 _ rfl b0 (off0+j*23) rfl ks _ RU.out Tryz.underlying73 rfl HM1.out ?_)|(refine wpList_store_mid rfl 73 _ _ rfl wr.heap.size 0 ks.toArray rfl rfl TH.out HM2.out ONE.out ?_))
    generalize ((wr.alloc (.cells #[.int .i64 0, .int .i64 0, .int .i64 0, .int .i64 0, .int .i64 0, .slice none 0 0, .bool false, .slice none 0 0, .slice none 0 0, .slice none 0 0, .slice none 0 0, .slice none 0 0, .int .i64 0, .slice none 0 0, .slice none 0 0, .slice none 0 0, .int .i64 0, .bool false, .slice none 0 0, .slice none 0 0, .slice none 0 0, .slice none 0 0, .slice none 0 0] 73)).setCells wr.heap.size 0 ks)=U3 at *
    clear TH RU HM2 ONE;obtain⟨a9,q9,hv9⟩:=Ac.slice LI.out.1
    subst hv9;have BX3:=hq (BX.out.step B3.out)
    have KE:Hid (∀u,Below U3.heap.size U3 u->(fun u:World=>u.rangeAt wr.heap.size 0 ks/\u.cell? ⟨X,1,none⟩=some (.slice a9 fs.length q9)) u):=fun u hu=>⟨by have:=Ao (Ad XF.out hu);rw[List.toList_toArray] at this;exact this,((BX3.out.step hu).cells 1).trans rfl⟩
    have RF:Hid (Below U3.heap.size U3 U3.drew):=(Below.refl _ _).drew
    refine Bx (fun u:World=>u.rangeAt wr.heap.size 0 ks/\u.cell? ⟨X,1,none⟩=some (.slice a9 fs.length q9)) [_,_,_,_,_,_,_] _ rfl (by kernel_rfl) (by kernel_rfl) ?_
    refine tk 0 (oi:=⟨_,_,_,_,_,_⟩) (v:= ?_) rfl (by kernel_rfl) (fun _ _ _ h=>h) (Or.inl ⟨by rfl, ?_⟩) (KE.out _ RF.out) ?_
    rotate_left
    ·(intro u hu;obtain⟨s0,s1⟩:=hu;go_simp)
     try with_reducible rfl
    try simp only[Act.put,sA,sB,sC]
    refine tk 1 (oi:=⟨_,_,_,_,_,_⟩) (v:= ?_) rfl (by kernel_rfl) (fun _ _ _ h=>h) (Or.inl ⟨by rfl, ?_⟩) (KE.out _ RF.out) ?_
    rotate_left
    ·(intro u hu;obtain⟨s0,s1⟩:=hu;go_simp)
     try with_reducible rfl
    try simp only[Act.put,sA,sB,sC]
    refine tk 2 (oi:=⟨_,_,_,_,_,_⟩) (v:= .agg (ks).toArray) rfl (by kernel_rfl) (fun _ _ _ h=>h) (yieldsIf_load_mid rfl 73 _ rfl wr.heap.size 0 rfl (ks) _ (fun u hu=>hu.1) Tryz.underlying73 rfl HM1.out) (KE.out _ RF.out) ?_
    try simp only[Act.put,sA,sB,sC]
    have RU3:=hq (Below.and BW.out B3.out)
    have C:=hq (CJ.out U3.drew (Below.and RU3.out RF.out))
    clear CJ;refine wpAnyH_ready (rs:=[3]) (by kernel_rfl) (by simp) ?_
    refine AllReadyH.cons (o:=⟨_,_,_,_,_,_⟩) rfl (fun K hK=> ?_) AllReadyH.nil
    refine(if_pos (show Region.wanted _ _=true by kernel_rfl)).mpr ?_
    refine Bm 83 [.tmp 29] #[73] rfl Ow _ rfl C.out ?_
    rintro e w3 ⟨M,rfl,hl,hn,hb⟩
    clear C;obtain⟨ms,hms⟩:∃ms:List Value,ms=Ax (M,D.ns[j].2):=⟨_,rfl⟩
    have VM:M.val= .agg ms.toArray:=by rw[hms];rfl
    have hml:ms.length=23:=by rw[hms];rfl
    have ONM:Hid (∀y∈ms,y.oneCell' =true):=fun y hy=>by have:=Array.all_eq_true_iff_forall_mem.1 (show(Ax (M,D.ns[j].2)).toArray.all (·.oneCell')=true from hn.at.ones) y (by rw[hms] at hy;simpa using hy);exact this
    have KM:Hid (ms=Ax (M,D.ns[j].2)):=hms
    clear hms;refine⟨M.val,rfl, ?_⟩
    rw[VM]
    clear VM;have b3:=hq (Below.and RF.out hb)
    have NM:=hq (Ck.own hn.h)
    have HL:=hq hl
    have LO:Hid (U3.drew.heap.size=U3.heap.size):=rfl
    clear hb hn hl;refine hK.out _ _ (KE.out _ b3.out) (fun hH2=> ?_)
    clear hK K hH2;try simp only[Act.put,sA,sB,sC]
    refine wpAnyH_ready (rs:=[4]) (by kernel_rfl) (by simp) ?_
    refine AllReadyH.cons (o:=⟨_,_,_,_,_,_⟩) rfl (fun K hK=> ?_) AllReadyH.nil
    refine(if_pos (show Region.wanted _ _=true by kernel_rfl)).mpr ?_
    refine D9 31 73 1 _ rfl Tryz.underlying31 ms.toArray (by rw[Array.toList_map];exact BS.out ms hml) ?_
    have b4:Below w3.heap.size w3 (w3.alloc (.cells ms.toArray 73)):=Ae _ _
    have HR:Hid (Row (w3.alloc (.cells ms.toArray 73)) (.slice (some ⟨w3.heap.size,0,none⟩) 1 1) 1 ms):=Row.laid w3 ms 73 _ rfl
    have B4:=hq (Below.and b3.out b4)
    have NM4:=hq (NM.out.below b4)
    have W34:Hid (w3.heap.size<=(w3.alloc (.cells ms.toArray 73)).heap.size):=b4.size
    clear b4 NM;refine hK.out _ _ (KE.out _ B4.out) (fun hH2=> ?_)
    clear hK K hH2;generalize (w3.alloc (.cells ms.toArray 73))=W4 at *
    try simp only[Act.put,sA,sB,sC]
    have B5:=hq (Below.and B3.out B4.out)
    have OE:=hq (LI.out.1.below B5.out)
    have LM:Hid (fs.length=j):=by have:=LK.out.1;rw[List.length_take] at this;show _=_;omega
    have RM:Hid (fs.length+1<=maxLen/\(fs.length+1)*408<=140737488355328/\m<=W4.heap.size):=by have:=LM.out;have:=hs.n;have:=LI.out.2.2.1;have:=B5.out.size;unfold maxLen;exact⟨by omega,by omega,by omega⟩
    refine wpAnyH_ready (rs:=[5]) (by kernel_rfl) (by simp) ?_
    refine AllReadyH.cons (o:=⟨_,_,_,_,_,_⟩) rfl (fun K hK=> ?_) AllReadyH.nil
    refine(if_pos (show Region.wanted _ _=true by kernel_rfl)).mpr ?_
    refine DW W4 _ _ 31 rfl m 73 i0 _ 23 408 Tryz.underlying31 hi0 hz0 hz1 hz2 rfl (by decide) (.slice a9 fs.length q9) fs.length (fs.map Ax).flatten rfl OE.out (.slice (some ⟨w3.heap.size,0,none⟩) 1 1) 1 ms rfl HR.out (by rw[hml]) ONM.out RM.out.1 RM.out.2.1 RM.out.2.2 ?_
    intro v' x AP;have LK6:=hq (Bs.snoc hlt (y:=(M,D.ns[j].2)) LK.out ⟨HL.out,rfl⟩)
    have LI5:=hq (LI.out.snoc (x:=U3.drew.heap.size) (y:=w3.heap.size) (f:=(M,D.ns[j].2)) (BC n) B5.out NM4.out (by have:=LO.out;have:=SE.out;omega) (by have:=b3.out.size;have:=LO.out;omega) W34.out (by rw[←KM.out];exact AP))
    obtain⟨ao,cp,bp,wq⟩:=AP
    obtain⟨a8,q8,hv8⟩:=Ac.slice ao
    subst hv8;have XM:=hq G.out.2.2.2.1
    have PV:Hid (∀g,wrB (.slice a9 fs.length q9) g->m<=g/\g<wr.heap.size):=fun g hg=>⟨(OE.out.lt g hg).1,LI.out.2.1 g hg⟩
    have bx:Ai 37 x X #[.int .i64 sz, .slice a9 fs.length q9, .slice none 0 0, .slice z4.1 z4.2.1 z4.2.2, .slice z7.1 z7.2.1 z7.2.2, .slice z10.1 z10.2.1 z10.2.2]:=Al (BX3.out.step B4.out) cp (fun hg=>by have:=(PV.out _ hg).1;have:=XM.out.2.1;omega)
    have G5:=hq ((G.out.step B5.out).chgM cp (fun g hg=>(PV.out g hg).1))
    have S7:Hid (x.rangeAt wr.heap.size 0 ks):=by have:=Ao (Al (Ad XF.out B4.out) cp (fun hg=>by have:=(PV.out _ hg).2;omega));rw[List.toList_toArray] at this;exact this
    have S8:Hid (x.cell? ⟨X,1,none⟩=some (.slice a9 fs.length q9)):=(bx.cells 1).trans rfl
    have ch:Chg (fun g=>g=X) x (x.setCell ⟨X,1,none⟩ (.slice a8 (fs.length+1) q8)):=(Chg.refl (fun g=>g=X) x).setAt X 1 rfl _
    have FIN:Hid (Flt w #[.int .i64 sz, .slice (some ⟨b0,off0,none⟩) D.ns.length p0, .slice a1 D.rs.length p1, .slice n2.1 n2.2.1 n2.2.2, .slice n3.1 n3.2.1 n3.2.2, .slice n4.1 n4.2.1 n4.2.2] X m (.slice z4.1 z4.2.1 z4.2.2) (.slice z7.1 z7.2.1 z7.2.2) (.slice z10.1 z10.2.1 z10.2.2) D (x.setCell ⟨X,1,none⟩ (.slice a8 (fs.length+1) q8))/\LsI Ax (Fi n) Ap 73 23 (x.setCell ⟨X,1,none⟩ (.slice a8 (fs.length+1) q8)) m (x.setCell ⟨X,1,none⟩ (.slice a8 (fs.length+1) q8)).heap.size (.slice a8 (fs.length+1) q8) (fs++[(M,D.ns[j].2)])/\Ai 37 (x.setCell ⟨X,1,none⟩ (.slice a8 (fs.length+1) q8)) X #[.int .i64 sz, .slice a8 (fs.length+1) q8, .slice none 0 0, .slice z4.1 z4.2.1 z4.2.2, .slice z7.1 z7.2.1 z7.2.2, .slice z10.1 z10.2.1 z10.2.2]):=
     ⟨G5.out.setX ch,(LI5.out.chg (BC n) ch (fun g hg _ e=>by have:=XM.out.2.1;omega)).up (Nat.le_refl _) ch.size (Nat.le_refl _),heap_setCell_same x X 1 _ _ _ bx⟩
    have bx:=hq bx
    clear ao cp bp wq ch LI5 G5 PV XM OE RM LM HL KM NM4 W34 LO HR ONM B4 b3 KE RF BX3 XF B3 SE LI G LK HM1 RU3;refine hK.out _ _ ⟨S7.out,S8.out⟩ (fun hH2=> ?_)
    clear hK K hH2;try simp only[Act.put,sA,sB,sC]
    refine tk 6 (oi:=⟨_,_,_,_,_,_⟩) (v:= ?_) rfl (by kernel_rfl) (fun _ _ _ h=>h) (Or.inl ⟨by rfl, ?_⟩) ⟨S7.out,S8.out⟩ ?_
    rotate_left
    ·(intro u hu;obtain⟨s0,s1⟩:=hu;go_simp)
     try with_reducible rfl
    try simp only[Act.put,sA,sB,sC]
    clear S7 S8;refine wpAnyH_done (by kernel_rfl) ?_ _
    show Oper.wp _ _ _ _ _ _
    have c5:=bx.out.cells
    have f5:∀q,x.frozen? ⟨X,q,none⟩=false:=fun q=>Ab bx.out
    have hsn:=hs.n
    go_wp2_with fail;go_roundw
    case rel=>exact⟨j+1,_,_,by omega,by go_num,LK6.out,FIN.out.1,FIN.out.2.1,FIN.out.2.2⟩
    case measure=>simp[intOf];omega
   ·have hi2:¬(j:Int)<(D.ns.length:Int):=by omega
    have hjn:j=D.ns.length:=by omega
    subst hjn;rw[List.take_length] at LK
    obtain⟨a9,q9,hv9⟩:=Ac.slice LI.out.1
    subst hv9;clear BS hi0 hz0 hz1 hz2 ON1 CN HA RG;have cA:=G.out.2.1.cells
    go_wp2_with fail;clear cA;obtain⟨NV,hNV⟩:∃NV:Value,NV= .slice a9 fs.length q9:=⟨_,rfl⟩
    have XM0:=hq G.out.2.2.2.1
    rw[←hNV] at BX LI
    clear hNV;have LN:=LI
    clear LI;obtain⟨c,hc⟩:∃c:Nat,c=wr.heap.size:=⟨_,rfl⟩
    rw[←hc] at LN
    have hc2:c<=wr.heap.size:=Nat.le_of_eq hc
    clear hc;obtain⟨i0,hi0,hz0,hz1,hz2⟩:=info_parts (show(Tryz.prog.info? 87).map (fun i=>(i.zero,i.size,i.bytes))=some (some (.agg #[.int .i64 0, .int .i64 0, .int .i64 0, .int .i64 0, .int .i64 0, .int .i64 0, .int .i64 0, .bool false, .slice none 0 0, .bool false, .slice none 0 0, .slice none 0 0, .slice none 0 0, .slice none 0 0, .slice none 0 0]),15,216) by kernel_rfl)
    have BS:=hq (fun (ks:List Value) (hl:ks.length=15)=>Bw (P:=Tryz.prog) 87 i0 _ 15 hi0 hz0 hz1 (by decide) (by decide) ks hl)
    go_loopw [38] (fun i wr=>∃(j:Nat) (v:Value) (gs:List BU),j<=D.rs.length/\i= .int .i64 j/\Hid (Bs Dx (D.rs.take j) gs)/\Hid (Flt w #[.int .i64 sz, .slice a0 D.ns.length p0, .slice a1 D.rs.length p1, .slice n2.1 n2.2.1 n2.2.2, .slice n3.1 n3.2.1 n3.2.2, .slice n4.1 n4.2.1 n4.2.2] X m (.slice z4.1 z4.2.1 z4.2.2) (.slice z7.1 z7.2.1 z7.2.2) (.slice z10.1 z10.2.1 z10.2.2) D wr)/\Hid (LsI AU (FQ n) Av 87 15 wr c wr.heap.size v gs)/\Hid (Ai 37 wr X #[.int .i64 sz,NV,v, .slice z4.1 z4.2.1 z4.2.2, .slice z7.1 z7.2.1 z7.2.2, .slice z10.1 z10.2.1 z10.2.2])/\Hid (LsI Ax (Fi n) Ap 73 23 wr m c NV fs))
     (fun i _=>D.rs.length-(intOf i).toNat)
    case atStart=>exact⟨0,_,[],Nat.zero_le _,rfl,⟨by simp,fun i h=>by simp at h⟩,G.out,LsI.nil _ hc2 (Nat.le_refl _),BX.out,LN.out⟩
    case round=>
     obtain⟨j,v,gs,hj,rfl,LR,G,LI,BX,LN⟩:=hrel
     by_cases hlt:j<D.rs.length
     ·have hi2:(j:Int)<(D.rs.length:Int):=by omega
      have MC:=LN.out.2.2.1
      have hal:=HA1.out (by omega)
      subst hal;obtain⟨ks,hks⟩:∃ks:List Value,ks=AU D.rs[j]:=⟨_,rfl⟩
      have hkl:ks.length=15:=by rw[hks];rfl
      have BW:=hq G.out.1
      have RU:Hid (wr.rangeAt b1 (off1+j*15) ks):=by rw[hks];exact RG1.out wr BW.out j hlt
      have VE:D.rs[j].1.val= .agg ks.toArray:=by rw[hks];rfl
      have ONE:Hid (ks.toArray.all (·.oneCell')=true):=by rw[hks];exact ON2.out j hlt
      have CJ:Hid (∀u:World,Below w.heap.size w u->Calls Tryz.prog 84 #[.agg ks.toArray] u fun e w' =>∃M:BP,e= .returned M.val/\D.rs[j].1.like M/\EJ n w' u.heap.size M D.rs[j].2/\Below u.heap.size u w'):=by have h:=CR.out j hlt;rw[VE] at h;exact h
      clear VE hks;have A1:Hid (Below wr.heap.size wr (wr.alloc (.cells #[.int .i64 0, .int .i64 0, .int .i64 0, .int .i64 0, .int .i64 0, .int .i64 0, .int .i64 0, .bool false, .slice none 0 0, .bool false, .slice none 0 0, .slice none 0 0, .slice none 0 0, .slice none 0 0, .slice none 0 0] 87))):=Ae _ _
      have AY:Hid (Ai 87 (wr.alloc (.cells #[.int .i64 0, .int .i64 0, .int .i64 0, .int .i64 0, .int .i64 0, .int .i64 0, .int .i64 0, .bool false, .slice none 0 0, .bool false, .slice none 0 0, .slice none 0 0, .slice none 0 0, .slice none 0 0, .slice none 0 0] 87)) wr.heap.size #[.int .i64 0, .int .i64 0, .int .i64 0, .int .i64 0, .int .i64 0, .int .i64 0, .int .i64 0, .bool false, .slice none 0 0, .bool false, .slice none 0 0, .slice none 0 0, .slice none 0 0, .slice none 0 0, .slice none 0 0]):=Ai.start _ wr _
      have AZ:Hid (wr.heap.size+1=(wr.alloc (.cells #[.int .i64 0, .int .i64 0, .int .i64 0, .int .i64 0, .int .i64 0, .int .i64 0, .int .i64 0, .bool false, .slice none 0 0, .bool false, .slice none 0 0, .slice none 0 0, .slice none 0 0, .slice none 0 0, .slice none 0 0] 87)).heap.size):=by show _=_;simp
      have TH:Hid ((wr.alloc (.cells #[.int .i64 0, .int .i64 0, .int .i64 0, .int .i64 0, .int .i64 0, .int .i64 0, .int .i64 0, .bool false, .slice none 0 0, .bool false, .slice none 0 0, .slice none 0 0, .slice none 0 0, .slice none 0 0, .slice none 0 0] 87)).there wr.heap.size 0 ks.toArray.size):=Ba AY.out (show 15=ks.toArray.size by rw[List.size_toArray,hkl])
      have HM2:Hid ((Tryz.prog.info? 87).map (·.size)=some ks.toArray.size):=by show _=_;rw[List.size_toArray,hkl];exact(show(Tryz.prog.info? 87).map (·.size)=some 15 by kernel_rfl)
      have HM1:Hid ((Tryz.prog.info? 87).map (·.size)=some ks.length):=by show _=_;rw[hkl];exact(show(Tryz.prog.info? 87).map (·.size)=some 15 by kernel_rfl)
      have GC:Chg (fun g=>g=wr.heap.size) (wr.alloc (.cells #[.int .i64 0, .int .i64 0, .int .i64 0, .int .i64 0, .int .i64 0, .int .i64 0, .int .i64 0, .bool false, .slice none 0 0, .bool false, .slice none 0 0, .slice none 0 0, .slice none 0 0, .slice none 0 0, .slice none 0 0] 87)) ((wr.alloc (.cells #[.int .i64 0, .int .i64 0, .int .i64 0, .int .i64 0, .int .i64 0, .int .i64 0, .int .i64 0, .bool false, .slice none 0 0, .bool false, .slice none 0 0, .slice none 0 0, .slice none 0 0, .slice none 0 0, .slice none 0 0] 87)).setCells wr.heap.size 0 ks):=Chg.setCells (F:=fun g=>g=wr.heap.size) (g:=wr.heap.size) (fun _=>rfl) ks 0 _ (Chg.refl _ _)
      have XF:Hid (((wr.alloc (.cells #[.int .i64 0, .int .i64 0, .int .i64 0, .int .i64 0, .int .i64 0, .int .i64 0, .int .i64 0, .bool false, .slice none 0 0, .bool false, .slice none 0 0, .slice none 0 0, .slice none 0 0, .slice none 0 0, .slice none 0 0] 87)).setCells wr.heap.size 0 ks).heap[wr.heap.size]? =some (.cells ks.toArray 87 (0,0))):=A7 AY.out ks (by rw[hkl];rfl)
      have B3:Hid (Below wr.heap.size wr ((wr.alloc (.cells #[.int .i64 0, .int .i64 0, .int .i64 0, .int .i64 0, .int .i64 0, .int .i64 0, .int .i64 0, .bool false, .slice none 0 0, .bool false, .slice none 0 0, .slice none 0 0, .slice none 0 0, .slice none 0 0, .slice none 0 0] 87)).setCells wr.heap.size 0 ks)):=A1.out.trans (GC.below (fun g _ hg=>by omega) A1.out.size)
      have SE:Hid (wr.heap.size+1<=((wr.alloc (.cells #[.int .i64 0, .int .i64 0, .int .i64 0, .int .i64 0, .int .i64 0, .int .i64 0, .int .i64 0, .bool false, .slice none 0 0, .bool false, .slice none 0 0, .slice none 0 0, .slice none 0 0, .slice none 0 0, .slice none 0 0] 87)).setCells wr.heap.size 0 ks).heap.size):=by have:=GC.size;have:=AZ.out;show _<=_;omega
      clear GC AY AZ A1;go_upto_region 10 with(first|(refine wpList_load_mid rfl 87 _ rfl b1 (off1+j*15) rfl ks _ RU.out Tryz.underlying87 rfl HM1.out ?_)|(refine wpList_store_mid rfl 87 _ _ rfl wr.heap.size 0 ks.toArray rfl rfl TH.out HM2.out ONE.out ?_))
      generalize ((wr.alloc (.cells #[.int .i64 0, .int .i64 0, .int .i64 0, .int .i64 0, .int .i64 0, .int .i64 0, .int .i64 0, .bool false, .slice none 0 0, .bool false, .slice none 0 0, .slice none 0 0, .slice none 0 0, .slice none 0 0, .slice none 0 0] 87)).setCells wr.heap.size 0 ks)=U3 at *
      clear TH RU HM2 ONE;obtain⟨a9,q9,hv9⟩:=Ac.slice LI.out.1
      subst hv9;have BX3:=hq (BX.out.step B3.out)
      have KE:Hid (∀u,Below U3.heap.size U3 u->(fun u:World=>u.rangeAt wr.heap.size 0 ks/\u.cell? ⟨X,2,none⟩=some (.slice a9 gs.length q9)) u):=fun u hu=>⟨by have:=Ao (Ad XF.out hu);rw[List.toList_toArray] at this;exact this,((BX3.out.step hu).cells 2).trans rfl⟩
      have RF:Hid (Below U3.heap.size U3 U3.drew):=(Below.refl _ _).drew
      refine Bx (fun u:World=>u.rangeAt wr.heap.size 0 ks/\u.cell? ⟨X,2,none⟩=some (.slice a9 gs.length q9)) [_,_,_,_,_,_,_] _ rfl (by kernel_rfl) (by kernel_rfl) ?_
      refine tk 0 (oi:=⟨_,_,_,_,_,_⟩) (v:= ?_) rfl (by kernel_rfl) (fun _ _ _ h=>h) (Or.inl ⟨by rfl, ?_⟩) (KE.out _ RF.out) ?_
      rotate_left
      ·(intro u hu;obtain⟨s0,s1⟩:=hu;go_simp)
       try with_reducible rfl
      try simp only[Act.put,sA,sB,sC]
      refine tk 1 (oi:=⟨_,_,_,_,_,_⟩) (v:= ?_) rfl (by kernel_rfl) (fun _ _ _ h=>h) (Or.inl ⟨by rfl, ?_⟩) (KE.out _ RF.out) ?_
      rotate_left
      ·(intro u hu;obtain⟨s0,s1⟩:=hu;go_simp)
       try with_reducible rfl
      try simp only[Act.put,sA,sB,sC]
      refine tk 2 (oi:=⟨_,_,_,_,_,_⟩) (v:= .agg (ks).toArray) rfl (by kernel_rfl) (fun _ _ _ h=>h) (yieldsIf_load_mid rfl 87 _ rfl wr.heap.size 0 rfl (ks) _ (fun u hu=>hu.1) Tryz.underlying87 rfl HM1.out) (KE.out _ RF.out) ?_
      try simp only[Act.put,sA,sB,sC]
      have RU3:=hq (Below.and BW.out B3.out)
      have C:=hq (CJ.out U3.drew (Below.and RU3.out RF.out))
      clear CJ;refine wpAnyH_ready (rs:=[3]) (by kernel_rfl) (by simp) ?_
      refine AllReadyH.cons (o:=⟨_,_,_,_,_,_⟩) rfl (fun K hK=> ?_) AllReadyH.nil
      refine(if_pos (show Region.wanted _ _=true by kernel_rfl)).mpr ?_
      refine Bm 84 [.tmp 44] #[87] rfl Q8 _ rfl C.out ?_
      rintro e w3 ⟨M,rfl,hl,hn,hb⟩
      clear C;obtain⟨ms,hms⟩:∃ms:List Value,ms=AU (M,D.rs[j].2):=⟨_,rfl⟩
      have VM:M.val= .agg ms.toArray:=by rw[hms];rfl
      have hml:ms.length=15:=by rw[hms];rfl
      have ONM:Hid (∀y∈ms,y.oneCell' =true):=fun y hy=>by have:=Array.all_eq_true_iff_forall_mem.1 (show(AU (M,D.rs[j].2)).toArray.all (·.oneCell')=true from(EJ.own hn).at.ones) y (by rw[hms] at hy;simpa using hy);exact this
      have KM:Hid (ms=AU (M,D.rs[j].2)):=hms
      clear hms;refine⟨M.val,rfl, ?_⟩
      rw[VM]
      clear VM;have b3:=hq (Below.and RF.out hb)
      have NM:=hq (EJ.own hn)
      have HL:=hq hl
      have LO:Hid (U3.drew.heap.size=U3.heap.size):=rfl
      clear hb hn hl;refine hK.out _ _ (KE.out _ b3.out) (fun hH2=> ?_)
      clear hK K hH2;try simp only[Act.put,sA,sB,sC]
      refine wpAnyH_ready (rs:=[4]) (by kernel_rfl) (by simp) ?_
      refine AllReadyH.cons (o:=⟨_,_,_,_,_,_⟩) rfl (fun K hK=> ?_) AllReadyH.nil
      refine(if_pos (show Region.wanted _ _=true by kernel_rfl)).mpr ?_
      refine D9 32 87 1 _ rfl Tryz.underlying32 ms.toArray (by rw[Array.toList_map];exact BS.out ms hml) ?_
      have b4:Below w3.heap.size w3 (w3.alloc (.cells ms.toArray 87)):=Ae _ _
      have HR:Hid (Row (w3.alloc (.cells ms.toArray 87)) (.slice (some ⟨w3.heap.size,0,none⟩) 1 1) 1 ms):=Row.laid w3 ms 87 _ rfl
      have B4:=hq (Below.and b3.out b4)
      have NM4:=hq (NM.out.below b4)
      have W34:Hid (w3.heap.size<=(w3.alloc (.cells ms.toArray 87)).heap.size):=b4.size
      clear b4 NM;refine hK.out _ _ (KE.out _ B4.out) (fun hH2=> ?_)
      clear hK K hH2;generalize (w3.alloc (.cells ms.toArray 87))=W4 at *
      try simp only[Act.put,sA,sB,sC]
      have B5:=hq (Below.and B3.out B4.out)
      have OE:=hq (LI.out.1.below B5.out)
      have LM:Hid (gs.length=j):=by have:=LR.out.1;rw[List.length_take] at this;show _=_;omega
      have RM:Hid (gs.length+1<=maxLen/\(gs.length+1)*216<=140737488355328/\c<=W4.heap.size):=by have:=LM.out;have:=hs.r;have:=LI.out.2.2.1;have:=B5.out.size;unfold maxLen;exact⟨by omega,by omega,by omega⟩
      refine wpAnyH_ready (rs:=[5]) (by kernel_rfl) (by simp) ?_
      refine AllReadyH.cons (o:=⟨_,_,_,_,_,_⟩) rfl (fun K hK=> ?_) AllReadyH.nil
      refine(if_pos (show Region.wanted _ _=true by kernel_rfl)).mpr ?_
      refine DW W4 _ _ 32 rfl c 87 i0 _ 15 216 Tryz.underlying32 hi0 hz0 hz1 hz2 rfl (by decide) (.slice a9 gs.length q9) gs.length (gs.map AU).flatten rfl OE.out (.slice (some ⟨w3.heap.size,0,none⟩) 1 1) 1 ms rfl HR.out (by rw[hml]) ONM.out RM.out.1 RM.out.2.1 RM.out.2.2 ?_
      intro v' x AP;have LR6:=hq (Bs.snoc hlt (y:=(M,D.rs[j].2)) LR.out ⟨HL.out,rfl⟩)
      have LI5:=hq (LI.out.snoc (x:=U3.drew.heap.size) (y:=w3.heap.size) (f:=(M,D.rs[j].2)) (Ce n) B5.out NM4.out (by have:=LO.out;have:=SE.out;omega) (by have:=b3.out.size;have:=LO.out;omega) W34.out (by rw[←KM.out];exact AP))
      obtain⟨ao,cp,bp,wq⟩:=AP
      obtain⟨a8,q8,hv8⟩:=Ac.slice ao
      subst hv8;have XM:=hq G.out.2.2.2.1
      have PV:Hid (∀g,wrB (.slice a9 gs.length q9) g->c<=g/\g<wr.heap.size):=fun g hg=>⟨(OE.out.lt g hg).1,LI.out.2.1 g hg⟩
      have bx:Ai 37 x X #[.int .i64 sz,NV, .slice a9 gs.length q9, .slice z4.1 z4.2.1 z4.2.2, .slice z7.1 z7.2.1 z7.2.2, .slice z10.1 z10.2.1 z10.2.2]:=Al (BX3.out.step B4.out) cp (fun hg=>by have:=(PV.out _ hg).1;have:=XM.out.2.1;omega)
      have G5:=hq ((G.out.step B5.out).chgM cp (fun g hg=>Nat.le_trans MC (PV.out g hg).1))
      have S7:Hid (x.rangeAt wr.heap.size 0 ks):=by have:=Ao (Al (Ad XF.out B4.out) cp (fun hg=>by have:=(PV.out _ hg).2;omega));rw[List.toList_toArray] at this;exact this
      have S8:Hid (x.cell? ⟨X,2,none⟩=some (.slice a9 gs.length q9)):=(bx.cells 2).trans rfl
      have ch:Chg (fun g=>g=X) x (x.setCell ⟨X,2,none⟩ (.slice a8 (gs.length+1) q8)):=(Chg.refl (fun g=>g=X) x).setAt X 2 rfl _
      have FIN:Hid (Flt w #[.int .i64 sz, .slice a0 D.ns.length p0, .slice (some ⟨b1,off1,none⟩) D.rs.length p1, .slice n2.1 n2.2.1 n2.2.2, .slice n3.1 n3.2.1 n3.2.2, .slice n4.1 n4.2.1 n4.2.2] X m (.slice z4.1 z4.2.1 z4.2.2) (.slice z7.1 z7.2.1 z7.2.2) (.slice z10.1 z10.2.1 z10.2.2) D (x.setCell ⟨X,2,none⟩ (.slice a8 (gs.length+1) q8))/\LsI AU (FQ n) Av 87 15 (x.setCell ⟨X,2,none⟩ (.slice a8 (gs.length+1) q8)) c (x.setCell ⟨X,2,none⟩ (.slice a8 (gs.length+1) q8)).heap.size (.slice a8 (gs.length+1) q8) (gs++[(M,D.rs[j].2)])/\Ai 37 (x.setCell ⟨X,2,none⟩ (.slice a8 (gs.length+1) q8)) X #[.int .i64 sz,NV, .slice a8 (gs.length+1) q8, .slice z4.1 z4.2.1 z4.2.2, .slice z7.1 z7.2.1 z7.2.2, .slice z10.1 z10.2.1 z10.2.2]):=
       ⟨G5.out.setX ch,(LI5.out.chg (Ce n) ch (fun g hg _ e=>by have:=XM.out.2.1;omega)).up (Nat.le_refl _) ch.size (Nat.le_refl _),heap_setCell_same x X 2 _ _ _ bx⟩
      have FINN:Hid (LsI Ax (Fi n) Ap 73 23 (x.setCell ⟨X,2,none⟩ (.slice a8 (gs.length+1) q8)) m c NV fs):=((LN.out.below (BC n) B5.out).chg (BC n) cp (fun g _ g2 hg=>by have:=(PV.out g hg).1;omega)).chg (BC n) ch (fun g g1 _ e=>by have:=XM.out.2.1;omega)
      have bx:=hq bx
      clear ao cp bp wq ch LI5 G5 PV XM OE RM LM HL KM NM4 W34 LO HR ONM B4 b3 KE RF BX3 XF B3 SE LI G LR HM1 RU3;refine hK.out _ _ ⟨S7.out,S8.out⟩ (fun hH2=> ?_)
      clear hK K hH2;try simp only[Act.put,sA,sB,sC]
      refine tk 6 (oi:=⟨_,_,_,_,_,_⟩) (v:= ?_) rfl (by kernel_rfl) (fun _ _ _ h=>h) (Or.inl ⟨by rfl, ?_⟩) ⟨S7.out,S8.out⟩ ?_
      rotate_left
      ·(intro u hu;obtain⟨s0,s1⟩:=hu;go_simp)
       try with_reducible rfl
      try simp only[Act.put,sA,sB,sC]
      clear S7 S8;refine wpAnyH_done (by kernel_rfl) ?_ _
      show Oper.wp _ _ _ _ _ _
      have c5:=bx.out.cells
      have f5:∀q,x.frozen? ⟨X,q,none⟩=false:=fun q=>Ab bx.out
      have hsn:=hs.r
      go_wp2_with fail;go_roundw
      case rel=>exact⟨j+1,_,_,by omega,by go_num,LR6.out,FIN.out.1,FIN.out.2.1,FIN.out.2.2,FINN.out⟩
      case measure=>simp[intOf];omega
     ·have hi2:¬(j:Int)<(D.rs.length:Int):=by omega
      have hjn:j=D.rs.length:=by omega
      subst hjn;rw[List.take_length] at LR
      obtain⟨a9,q9,hv9⟩:=Ac.slice LI.out.1
      subst hv9;clear BS hi0 hz0 hz1 hz2 ON2 CR HA1 RG1;obtain⟨cs,hcs⟩:∃cs:List Value,cs=[.int .i64 sz,NV, .slice a9 gs.length q9, .slice z4.1 z4.2.1 z4.2.2, .slice z7.1 z7.2.1 z7.2.2, .slice z10.1 z10.2.1 z10.2.2]:=⟨_,rfl⟩
      have RGX:Hid (wr.rangeAt X 0 cs):=by rw[hcs];exact Ao BX.out
      have TH:Hid (wr.there (w.heap.size+1) 0 cs.toArray.size):=by rw[hcs];exact Ba G.out.2.2.1 rfl
      have HI:Hid ((Tryz.prog.info? 37).map (·.size)=some cs.length):=by rw[hcs];exact(show(Tryz.prog.info? 37).map (·.size)=some 6 by kernel_rfl)
      have HI2:Hid ((Tryz.prog.info? 37).map (·.size)=some cs.toArray.size):=by rw[hcs];exact(show(Tryz.prog.info? 37).map (·.size)=some 6 by kernel_rfl)
      have ONE:Hid (cs.toArray.all (·.oneCell')=true):=by obtain⟨_,_,hq1⟩:=Ac.slice LN.out.1;rw[hcs,hq1];show _=_;simp[Value.oneCell']
      have GC:Chg (fun g=>g=w.heap.size+1) wr (wr.setCells (w.heap.size+1) 0 cs):=Chg.setCells (F:=fun b=>b=w.heap.size+1) (g:=w.heap.size+1) (fun _=>rfl) cs 0 wr (Chg.refl _ _)
      have X1:Hid ((wr.setCells (w.heap.size+1) 0 cs).heap[w.heap.size+1]? =some (.cells cs.toArray 37 (0,0))):=A7 G.out.2.2.1 cs (by rw[hcs];rfl)
      have FIN:Hid (∃(V:WrV) (E:Wd),Value.agg cs.toArray=V.val/\sz=V.sz/\D.like E/\WrI n (wr.setCells (w.heap.size+1) 0 cs) w.heap.size (wr.setCells (w.heap.size+1) 0 cs).heap.size V E/\Below w.heap.size w (wr.setCells (w.heap.size+1) 0 cs)):=by
       have MC:=LN.out.2.2.1
       have CW:=LI.out.2.2.1
       obtain⟨h1,h2,h3,h4,a4,b4,a7,b7,a10,b10,o4,o7,o10,r4,r7,r10,y1,y2,y3,_⟩:=G.out
       have hgs:=GC.size
       have e1:=LN.out.chg (BC n) GC (fun g g1 _ e=>by omega)
       have e2:=LI.out.chg (Ce n) GC (fun g g1 _ e=>by omega)
       have e3:=LsI.flat (d:=CU) (o4.chg GC (fun g g1 _ e=>by omega)) r4.2.1 (by omega)
       have e4:=o7.chg GC (fun g g1 _ e=>by omega)
       have e5:=LsI.flat (d:=Cc) (o10.chg GC (fun g g1 _ e=>by omega)) r10.2.1 (by omega)
       refine⟨⟨sz,NV, .slice a9 gs.length q9, .slice z4.1 z4.2.1 z4.2.2, .slice z7.1 z7.2.1 z7.2.2, .slice z10.1 z10.2.1 z10.2.2⟩,⟨fs,gs,D.cs,D.ds,D.ls⟩,by rw[hcs],rfl,⟨LK.out,LR.out,rfl,rfl,rfl⟩,⟨fun i=>match i with|0=>m|1=>c|2=>a4|3=>a7|_=>a10,fun i=>match i with|0=>c|1=>wr.heap.size|2=>b4|3=>b7|_=>b10, ?_, ?_,Nat.le_refl _,e1,e2,e3,e4,e5⟩,h1.trans (GC.below (fun g _ hg=>by omega) h1.size)⟩
       ·intro i hi;rcases i with _|_|_|_|_|i<;>simp only<;>first|omega|exact absurd hi (by omega)
       ·intro i j hi hj hij;rcases i with _|_|_|_|_|i<;>rcases j with _|_|_|_|_|j<;>first|exact absurd rfl hij|exact absurd hi (by omega)|exact absurd hj (by omega)|(simp only;omega)
      clear hcs GC G LN LI LK LR BX;go_wp2_with (first|(refine wpList_load_mid rfl 37 _ rfl X 0 rfl cs _ RGX.out Tryz.underlying37 rfl HI.out ?_)|(refine wpList_store_mid rfl 37 _ _ rfl (w.heap.size+1) 0 cs.toArray rfl rfl TH.out HI2.out ONE.out ?_))
      generalize wr.setCells (w.heap.size+1) 0 cs=WF at *
      exact⟨rfl,_,results_cell_row Tryz.results34 _ WF (w.heap.size+1) 37 cs.toArray (0,0) _ rfl X1.out Tryz.underlying37 rfl HI2.out,(by obtain⟨V,E,e,e2,r⟩:=FIN.out;exact⟨V,by rw[e],e2,E,r⟩)⟩
end
end Go.Proofs.YtkcaelfkcepdkaaGreat
