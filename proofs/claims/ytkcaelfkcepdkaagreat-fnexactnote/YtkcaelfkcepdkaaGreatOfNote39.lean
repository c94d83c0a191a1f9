/-
  The model's l12Copy.
-/
import Derived.Test.YtkcaelfkcepdkaaGreatOfNote35
import Derived.Test.YtkcaelfkcepdkaaGreatOfNote36
import Derived.Test.YtkcaelfkcepdkaaGreatOfNote23
import Derived.Test.YtkcaelfkcepdkaaGreatOfNote37
import Derived.Test.YtkcaelfkcepdkaaGreatOfNote38
import Derived.Test.YtkcaelfkcepdkaaGreatOfNote32
import Derived.Test.YtkcaelfkcepdkaaGreatOfNote33
import Derived.Test.YtkcaelfkcepdkaaGreatOfNote29
import Derived.Test.YtkcaelfkcepdkaaGreatOfNote34
import Derived.Test.YtkcaelfkcepdkaaGreatOfNote9
namespace Go.Proofs.YtkcaelfkcepdkaaGreat
set_option maxRecDepth 100000
set_option maxHeartbeats 8000000
section
open Go.RowKit

theorem Ll.f {n:Nat} {w:World} {lo:Nat} {N:AL} {D:Nd} (h:Ll n w lo N D):Ey n w (fun g=>lo<=g) N D:=by
 obtain⟨o1,o2,o3,o4,o5,o6⟩:=h
 exact⟨⟨o1.mono (Nat.zero_le _),fun g hg=>(o1.lt g hg).1⟩,o2,⟨o3.mono (Nat.zero_le _),fun g hg=>(o3.lt g hg).1⟩,⟨o4.mono (Nat.zero_le _),fun g hg=>(o4.lt g hg).1⟩,⟨o5.mono (Nat.zero_le _),fun g hg=>(o5.lt g hg).1⟩,o6⟩
def WrW (n:Nat) (w:World) (lo hi:Nat) (W:WrV) (D:Wd):Prop:=
 ∃a b:Nat->Nat,(∀i,i<5->lo<=a i/\b i<=hi)/\(∀i j,i<5->j<5->i≠j->b i<=a j∨b j<=a i)/\hi<=w.heap.size∧
  LsI Ax (OR n) Ap 73 23 w (a 0) (b 0) W.nv D.ns/\LsI AU (RO n) Av 87 15 w (a 1) (b 1) W.rv D.rs/\LsI AM noI CU 117 5 w (a 2) (b 2) W.cv D.cs/\Ar w (a 3) (b 3) 141 4 W.av D.ds.length (Au D.ds)/\LsI AN noI Cc 121 2 w (a 4) (b 4) W.lv D.ls
theorem QT (args:Array Value) (w:World):(callFunc 28 args).run Tryz.prog w= .ok (.enter 28 args) w:=by go_simp
theorem So (args:Array Value) (w:World):(callFunc 60 args).run Tryz.prog w= .ok (.enter 60 args) w:=by go_simp
theorem J3 (n:Nat) (W:WrV) (D:Wd) (lo hi:Nat) (w:World) (h:WrI n w lo hi W D) (hs:D.small n) :
  Calls Tryz.prog 27 #[W.val] w fun e w' =>∃(V:WrV) (E:Wd),e= .returned V.val/\W.sz=V.sz/\D.like E/\WrW n w' w.heap.size w'.heap.size V E/\Below w.heap.size w w' :=by
 have hat:=h.at
 obtain⟨sz,nv,rv,cv,av,lv⟩:=W
 obtain⟨q0,q1,q2,q3,q4⟩:=hat
 simp only at q0 q1 q2 q3 q4
 have HAT:=hq q0
 have HRT:=hq q1
 obtain⟨a0,b0,off0,p0,rfl,hc0,hm0,ha0,rg0⟩:=q0.parts (K:=23) (fun _=>rfl)
 obtain⟨a1,b1,off1,p1,rfl,hc1,hm1,ha1,rg1⟩:=q1.parts (K:=15) (fun _=>rfl)
 have HA:=hq ha0
 have RG:=hq rg0
 have HA1:=hq ha1
 have RG1:=hq rg1
 clear ha0 rg0 hc0 hm0 ha1 rg1 hc1 hm1 q0 q1;have CN:Hid (∀j (hj:j<D.ns.length) (u:World),Below w.heap.size w u->Calls Tryz.prog 60 #[D.ns[j].1.val] u fun e w' =>∃M:AL,e= .returned M.val/\D.ns[j].1.like M/\Ey n w' (fun g=>u.heap.size<=g) M D.ns[j].2/\Below u.heap.size u w'):=fun j hj u hu=>by
  have hF:Bq n u D.ns[j].1 D.ns[j].2:=(HAT.out.2 _ (List.getElem_mem hj)).below hu
  exact(IY n _ _ u hF (hs.n1 _ (List.getElem_mem hj))).mono (fun e w' ⟨M,a,b,c,d⟩=>⟨M,a,b,Ll.f c,d⟩)
 have ON1:Hid (∀j (hj:j<D.ns.length),(Ax D.ns[j]).toArray.all (·.oneCell')=true):=fun j hj=>Bq.ones (HAT.out.2 _ (List.getElem_mem hj))
 have CR:Hid (∀j (hj:j<D.rs.length) (u:World),Below w.heap.size w u->Calls Tryz.prog 28 #[D.rs[j].1.val] u fun e w' =>∃M:BP,e= .returned M.val/\D.rs[j].1.like M/\Fh n w' (fun g=>u.heap.size<=g) M D.rs[j].2/\Below u.heap.size u w'):=fun j hj u hu=>
  Nk n _ _ u ((HRT.out.2 _ (List.getElem_mem hj)).below hu) (hs.r1 _ (List.getElem_mem hj))
 have ON2:Hid (∀j (hj:j<D.rs.length),(AU D.rs[j]).toArray.all (·.oneCell')=true):=fun j hj=>Cu.ones (HRT.out.2 _ (List.getElem_mem hj))
 clear HAT HRT h;obtain⟨n2,hz⟩:=q2.1.sl
 subst hz;obtain⟨n3,hz⟩:=q3.sl
 subst hz;obtain⟨n4,hz⟩:=q4.1.sl
 subst hz;have HC:=hq (fun (u:World) (hu:Below w.heap.size w u)=>q2.1.below hu)
 have HC1:Hid ((D.cs.map AM).flatten.length=D.cs.length*5/\∀y∈(D.cs.map AM).flatten,y.oneCell' =true):=⟨by rw[(B8 (K:=5) (cs:=AM) (fun _=>rfl) D.cs).len,List.length_map],by intro y hy;obtain⟨l,hl,hy⟩:=List.mem_flatten.1 hy;obtain⟨e,_,rfl⟩:=List.mem_map.1 hl;simp[AM] at hy;rcases hy with rfl|rfl|rfl|rfl|rfl<;>rfl⟩
 have HCN:=hq hs.c
 have HCI:=hq (show(Tryz.prog.info? 117).map (fun i=>(i.zero,i.size,i.bytes))=some (some (.agg #[.int .i64 0, .int .i64 0, .int .i64 0, .int .i64 0, .int .i64 0]),5,40) by kernel_rfl)
 have HD:=hq (fun (u:World) (hu:Below w.heap.size w u)=>q3.below hu)
 have HD1:=hq (And.intro (Cm D.ds) (EC D.ds))
 have HDN:=hq hs.d
 have HDI:=hq (show(Tryz.prog.info? 141).map (fun i=>(i.zero,i.size,i.bytes))=some (some (.agg #[.int .i64 0, .int .i64 0, .int .i64 0, .bool false]),4,32) by kernel_rfl)
 have HL:=hq (fun (u:World) (hu:Below w.heap.size w u)=>q4.1.below hu)
 have HL1:Hid ((D.ls.map AN).flatten.length=D.ls.length*2/\∀y∈(D.ls.map AN).flatten,y.oneCell' =true):=⟨by rw[(B8 (K:=2) (cs:=AN) (fun _=>rfl) D.ls).len,List.length_map],by intro y hy;obtain⟨l,hl,hy⟩:=List.mem_flatten.1 hy;obtain⟨e,_,rfl⟩:=List.mem_map.1 hl;simp[AN] at hy;rcases hy with rfl|rfl<;>rfl⟩
 have HLN:=hq hs.l
 have HLI:=hq (show(Tryz.prog.info? 121).map (fun i=>(i.zero,i.size,i.bytes))=some (some (.agg #[.int .i64 0, .int .i64 0]),2,16) by kernel_rfl)
 have b0:Below w.heap.size w ((w.alloc (.cells #[.int .i64 sz, .slice a0 D.ns.length p0, .slice a1 D.rs.length p1, .slice n2.1 n2.2.1 n2.2.2, .slice n3.1 n3.2.1 n3.2.2, .slice n4.1 n4.2.1 n4.2.2] 37)).alloc (.cells #[.int .i64 0, .slice none 0 0, .slice none 0 0, .slice none 0 0, .slice none 0 0, .slice none 0 0] 37)):=Below.and (Ae _ _) (Ae _ _)
 have m0:=Ai.step (Ai.start 37 w #[.int .i64 sz, .slice a0 D.ns.length p0, .slice a1 D.rs.length p1, .slice n2.1 n2.2.1 n2.2.2, .slice n3.1 n3.2.1 n3.2.2, .slice n4.1 n4.2.1 n4.2.2]) (Ae _ (.cells #[.int .i64 0, .slice none 0 0, .slice none 0 0, .slice none 0 0, .slice none 0 0, .slice none 0 0] 37))
 have m1:=Ai.start 37 (w.alloc (.cells #[.int .i64 sz, .slice a0 D.ns.length p0, .slice a1 D.rs.length p1, .slice n2.1 n2.2.1 n2.2.2, .slice n3.1 n3.2.1 n3.2.2, .slice n4.1 n4.2.1 n4.2.2] 37)) #[.int .i64 0, .slice none 0 0, .slice none 0 0, .slice none 0 0, .slice none 0 0, .slice none 0 0]
 simp only[World.size_alloc] at m1
 have B0:=hq b0
 have M0:=hq m0
 have M1:=hq m1
 have ZZ:Hid (w.heap.size+2=((w.alloc (.cells #[.int .i64 sz, .slice a0 D.ns.length p0, .slice a1 D.rs.length p1, .slice n2.1 n2.2.1 n2.2.2, .slice n3.1 n3.2.1 n3.2.2, .slice n4.1 n4.2.1 n4.2.2] 37)).alloc (.cells #[.int .i64 0, .slice none 0 0, .slice none 0 0, .slice none 0 0, .slice none 0 0, .slice none 0 0] 37)).heap.size):=by show _=_;simp
 clear b0 m0 m1;show Calls Tryz.prog 27 #[.agg #[.int .i64 sz, .slice a0 D.ns.length p0, .slice a1 D.rs.length p1, .slice n2.1 n2.2.1 n2.2.2, .slice n3.1 n3.2.1 n3.2.2, .slice n4.1 n4.2.1 n4.2.2]] w _
 go_enter Tryz.func27,Tryz.ntmps27
 go_upto_region 1 with fail
 generalize ((w.alloc (.cells #[.int .i64 sz, .slice a0 D.ns.length p0, .slice a1 D.rs.length p1, .slice n2.1 n2.2.1 n2.2.2, .slice n3.1 n3.2.1 n3.2.2, .slice n4.1 n4.2.1 n4.2.2] 37)).alloc (.cells #[.int .i64 0, .slice none 0 0, .slice none 0 0, .slice none 0 0, .slice none 0 0, .slice none 0 0] 37))=V0 at *
 go_cut [3] (fun s3 wx=>∃(X m:Nat) (z4 z7 z10:Option Addr × Nat × Nat),s3= .pointer (some ⟨X,0,none⟩)/\Hid (Flt w #[.int .i64 sz, .slice a0 D.ns.length p0, .slice a1 D.rs.length p1, .slice n2.1 n2.2.1 n2.2.2, .slice n3.1 n3.2.1 n3.2.2, .slice n4.1 n4.2.1 n4.2.2] X m (.slice z4.1 z4.2.1 z4.2.2) (.slice z7.1 z7.2.1 z7.2.2) (.slice z10.1 z10.2.1 z10.2.2) D wx)/\Hid (Ai 37 wx X #[.int .i64 sz, .slice none 0 0, .slice none 0 0, .slice z4.1 z4.2.1 z4.2.2, .slice z7.1 z7.2.1 z7.2.2, .slice z10.1 z10.2.1 z10.2.2]))
 case first=>
  refine Bx (fun u=>Ltp V0.drew u) [_,_,_,_,_,_,_,_,_,_,_,_,_,_,_,_] _ rfl (by kernel_rfl) (by kernel_rfl) ?_
  refine J8 (w0:=V0.drew) (Φ :=(fun k v x y u=>match k with
   |0=>v= .pointer (some ⟨w.heap.size,0,none⟩)
   |1=>v= .int .i64 sz
   |2=>v= .slice (some ⟨x,0,none⟩) 0 0
   |3=>v= .pointer (some ⟨w.heap.size,3,none⟩)
   |4=>v= .slice n2.1 n2.2.1 n2.2.2
   |5=>∃z:Option Addr × Nat × Nat,v= .slice z.1 z.2.1 z.2.2/\Ar u x y 117 5 (.slice z.1 z.2.1 z.2.2) D.cs.length (D.cs.map AM).flatten
   |6=>v= .slice (some ⟨x,0,none⟩) 0 0
   |7=>v= .pointer (some ⟨w.heap.size,4,none⟩)
   |8=>v= .slice n3.1 n3.2.1 n3.2.2
   |9=>∃z:Option Addr × Nat × Nat,v= .slice z.1 z.2.1 z.2.2/\Ar u x y 141 4 (.slice z.1 z.2.1 z.2.2) D.ds.length (Au D.ds)
   |10=>v= .slice (some ⟨x,0,none⟩) 0 0
   |11=>v= .pointer (some ⟨w.heap.size,5,none⟩)
   |12=>v= .slice n4.1 n4.2.1 n4.2.2
   |13=>∃z:Option Addr × Nat × Nat,v= .slice z.1 z.2.1 z.2.2/\Ar u x y 121 2 (.slice z.1 z.2.1 z.2.2) D.ls.length (D.ls.map AN).flatten
   |14=>∃(z4 z7 z10:Option Addr × Nat × Nat) (a4 b4 a7 b7 a10 b10:Nat),v= .agg #[.int .i64 sz, .slice none 0 0, .slice none 0 0, .slice z4.1 z4.2.1 z4.2.2, .slice z7.1 z7.2.1 z7.2.2, .slice z10.1 z10.2.1 z10.2.2]/\Ar u a4 b4 117 5 (.slice z4.1 z4.2.1 z4.2.2) D.cs.length (D.cs.map AM).flatten/\Ar u a7 b7 141 4 (.slice z7.1 z7.2.1 z7.2.2) D.ds.length (Au D.ds)/\Ar u a10 b10 121 2 (.slice z10.1 z10.2.1 z10.2.2) D.ls.length (D.ls.map AN).flatten/\(V0.heap.size<=a4/\a4<=b4/\b4<=x)/\(V0.heap.size<=a7/\a7<=b7/\b7<=x)/\(V0.heap.size<=a10/\a10<=b10/\b10<=x)/\(b4<=a7∨b7<=a4)/\(b4<=a10∨b10<=a4)/\(b7<=a10∨b10<=a7)
   |15=>v= .pointer (some ⟨x,0,none⟩)/\x<y/\Ai 37 u x #[.int .i64 0, .slice none 0 0, .slice none 0 0, .slice none 0 0, .slice none 0 0, .slice none 0 0]
   |_=>True)) (N:=58) (by kernel_rfl) ?stab rfl ?step ?fin
  case stab=>
   intro k v x y u u' hp hl;rcases k with _|_|_|_|_|_|_|_|_|_|_|_|_|_|_|_|k
   ·exact hp
   ·exact hp
   ·exact hp
   ·exact hp
   ·exact hp
   ·obtain⟨z,e,ho⟩:=hp
    exact⟨z,e,ho.below hl⟩
   ·exact hp
   ·exact hp
   ·exact hp
   ·obtain⟨z,e,ho⟩:=hp
    exact⟨z,e,ho.below hl⟩
   ·exact hp
   ·exact hp
   ·exact hp
   ·obtain⟨z,e,ho⟩:=hp
    exact⟨z,e,ho.below hl⟩
   ·obtain⟨z4,z7,z10,a4,b4,a7,b7,a10,b10,e,o4,o7,o10,r⟩:=hp
    exact⟨z4,z7,z10,a4,b4,a7,b7,a10,b10,e,o4.below hl,o7.below hl,o10.below hl,r⟩
   ·obtain⟨e,hxy,ho⟩:=hp
    exact⟨e,hxy,ho.step hl⟩
   ·trivial
  case step=>
   intro i o ho ρ v x y u hu hv hf hpw hz hc;have hu2:Below V0.heap.size V0 u:=(Below.refl V0.heap.size V0).drew.trans hu
   have cc:∀j,u.cell? ⟨w.heap.size,j,none⟩=(#[.int .i64 sz, .slice a0 D.ns.length p0, .slice a1 D.rs.length p1, .slice n2.1 n2.2.1 n2.2.2, .slice n3.1 n3.2.1 n3.2.2, .slice n4.1 n4.2.1 n4.2.2]:Array Value)[j]? :=(M0.out.step hu2).cells
   have bw:Below w.heap.size w u:=B0.out.trans (hu2.mono B0.out.size)
   have cell:∀j,u.cell? ⟨w.heap.size,j,none⟩=(#[.int .i64 sz, .slice a0 D.ns.length p0, .slice a1 D.rs.length p1, .slice n2.1 n2.2.1 n2.2.2, .slice n3.1 n3.2.1 n3.2.2, .slice n4.1 n4.2.1 n4.2.2]:Array Value)[j]? :=cc
   have hi13:i<16:=(List.getElem?_eq_some_iff.1 ho).1
   rcases i with _|_|_|_|_|_|_|_|_|_|_|_|_|_|_|_|i
   ·simp only[List.getElem?_cons_zero,Option.some.injEq] at ho
    subst ho;have e1: ρ (.tmp 1)= .pointer (some ⟨w.heap.size,0,none⟩):=(hz 1 (by kernel_rfl)).trans rfl
    exact AV.value (v:= .pointer (some ⟨w.heap.size,0,none⟩)) (w' :=u) (by go_simp) ⟨Ltp.refl _,rfl⟩
   ·simp only[List.getElem?_cons_succ,List.getElem?_cons_zero,Option.some.injEq] at ho
    subst ho;have e0:=(hv 0 6 (by decide) (by kernel_rfl) (by kernel_rfl) (by decide)).trans (hf 0 (by decide) (by kernel_rfl)).1
    have c0:=cc 0
    exact AV.value (v:= .int .i64 sz) (w' :=u) (by go_simp) ⟨Ltp.refl _,rfl⟩
   ·simp only[List.getElem?_cons_succ,List.getElem?_cons_zero,Option.some.injEq] at ho
    subst ho;exact AV.value (v:= .slice (some ⟨u.heap.size,0,none⟩) 0 0) (w' :=u.alloc (.cells #[] 117)) (by go_simp) ⟨Ae _ _,rfl⟩
   ·simp only[List.getElem?_cons_succ,List.getElem?_cons_zero,Option.some.injEq] at ho
    subst ho;have e1: ρ (.tmp 1)= .pointer (some ⟨w.heap.size,0,none⟩):=(hz 1 (by kernel_rfl)).trans rfl
    exact AV.value (v:= .pointer (some ⟨w.heap.size,3,none⟩)) (w' :=u) (by go_simp) ⟨Ltp.refl _,rfl⟩
   ·simp only[List.getElem?_cons_succ,List.getElem?_cons_zero,Option.some.injEq] at ho
    subst ho;have e0:=(hv 3 9 (by decide) (by kernel_rfl) (by kernel_rfl) (by decide)).trans (hf 3 (by decide) (by kernel_rfl)).1
    have c0:=cc 3
    exact AV.value (v:= .slice n2.1 n2.2.1 n2.2.2) (w' :=u) (by go_simp) ⟨Ltp.refl _,rfl⟩
   ·simp only[List.getElem?_cons_succ,List.getElem?_cons_zero,Option.some.injEq] at ho
    subst ho;have e2:=(hv 2 8 (by decide) (by kernel_rfl) (by kernel_rfl) (by decide)).trans (hf 2 (by decide) (by kernel_rfl)).1
    have e4:=(hv 4 10 (by decide) (by kernel_rfl) (by kernel_rfl) (by decide)).trans (hf 4 (by decide) (by kernel_rfl)).1
    obtain⟨i0,hi0,hz0,hz1,hz2⟩:=info_parts HCI.out
    refine AV.app u _ _ 33 rfl u.heap.size 117 i0 _ 5 40 Tryz.underlying33 hi0 hz0 hz1 hz2 rfl (by decide) (.slice (some ⟨x 2,0,none⟩) 0 0) 0 [] e2 (Ac.zero _ _ _ _ _) (.slice n2.1 n2.2.1 n2.2.2) D.cs.length (D.cs.map AM).flatten e4 (HC.out u bw) HC1.out.1 HC1.out.2 (by have:=HCN.out;unfold maxLen;omega) (by have:=HCN.out;omega) (Nat.le_refl _) ?_
    intro v1 u2 AP;obtain⟨rb,ro,_⟩:=AP.fresh
    obtain⟨ra,rq,rfl⟩:=ro.slice
    simp only[Nat.zero_add,List.nil_append] at ro
    exact⟨rb,(ra,_,rq),by simp only[Nat.zero_add],Ar.made ro⟩
   ·simp only[List.getElem?_cons_succ,List.getElem?_cons_zero,Option.some.injEq] at ho
    subst ho;exact AV.value (v:= .slice (some ⟨u.heap.size,0,none⟩) 0 0) (w' :=u.alloc (.cells #[] 141)) (by go_simp) ⟨Ae _ _,rfl⟩
   ·simp only[List.getElem?_cons_succ,List.getElem?_cons_zero,Option.some.injEq] at ho
    subst ho;have e1: ρ (.tmp 1)= .pointer (some ⟨w.heap.size,0,none⟩):=(hz 1 (by kernel_rfl)).trans rfl
    exact AV.value (v:= .pointer (some ⟨w.heap.size,4,none⟩)) (w' :=u) (by go_simp) ⟨Ltp.refl _,rfl⟩
   ·simp only[List.getElem?_cons_succ,List.getElem?_cons_zero,Option.some.injEq] at ho
    subst ho;have e0:=(hv 7 13 (by decide) (by kernel_rfl) (by kernel_rfl) (by decide)).trans (hf 7 (by decide) (by kernel_rfl)).1
    have c0:=cc 4
    exact AV.value (v:= .slice n3.1 n3.2.1 n3.2.2) (w' :=u) (by go_simp) ⟨Ltp.refl _,rfl⟩
   ·simp only[List.getElem?_cons_succ,List.getElem?_cons_zero,Option.some.injEq] at ho
    subst ho;have e6:=(hv 6 12 (by decide) (by kernel_rfl) (by kernel_rfl) (by decide)).trans (hf 6 (by decide) (by kernel_rfl)).1
    have e8:=(hv 8 14 (by decide) (by kernel_rfl) (by kernel_rfl) (by decide)).trans (hf 8 (by decide) (by kernel_rfl)).1
    obtain⟨i0,hi0,hz0,hz1,hz2⟩:=info_parts HDI.out
    refine AV.app u _ _ 34 rfl u.heap.size 141 i0 _ 4 32 Tryz.underlying34 hi0 hz0 hz1 hz2 rfl (by decide) (.slice (some ⟨x 6,0,none⟩) 0 0) 0 [] e6 (Ac.zero _ _ _ _ _) (.slice n3.1 n3.2.1 n3.2.2) D.ds.length (Au D.ds) e8 (HD.out u bw) HD1.out.1 HD1.out.2 (by have:=HDN.out;unfold maxLen;omega) (by have:=HDN.out;omega) (Nat.le_refl _) ?_
    intro v1 u2 AP;obtain⟨rb,ro,_⟩:=AP.fresh
    obtain⟨ra,rq,rfl⟩:=ro.slice
    simp only[Nat.zero_add,List.nil_append] at ro
    exact⟨rb,(ra,_,rq),by simp only[Nat.zero_add],Ar.made ro⟩
   ·simp only[List.getElem?_cons_succ,List.getElem?_cons_zero,Option.some.injEq] at ho
    subst ho;exact AV.value (v:= .slice (some ⟨u.heap.size,0,none⟩) 0 0) (w' :=u.alloc (.cells #[] 121)) (by go_simp) ⟨Ae _ _,rfl⟩
   ·simp only[List.getElem?_cons_succ,List.getElem?_cons_zero,Option.some.injEq] at ho
    subst ho;have e1: ρ (.tmp 1)= .pointer (some ⟨w.heap.size,0,none⟩):=(hz 1 (by kernel_rfl)).trans rfl
    exact AV.value (v:= .pointer (some ⟨w.heap.size,5,none⟩)) (w' :=u) (by go_simp) ⟨Ltp.refl _,rfl⟩
   ·simp only[List.getElem?_cons_succ,List.getElem?_cons_zero,Option.some.injEq] at ho
    subst ho;have e0:=(hv 11 17 (by decide) (by kernel_rfl) (by kernel_rfl) (by decide)).trans (hf 11 (by decide) (by kernel_rfl)).1
    have c0:=cc 5
    exact AV.value (v:= .slice n4.1 n4.2.1 n4.2.2) (w' :=u) (by go_simp) ⟨Ltp.refl _,rfl⟩
   ·simp only[List.getElem?_cons_succ,List.getElem?_cons_zero,Option.some.injEq] at ho
    subst ho;have e10:=(hv 10 16 (by decide) (by kernel_rfl) (by kernel_rfl) (by decide)).trans (hf 10 (by decide) (by kernel_rfl)).1
    have e12:=(hv 12 18 (by decide) (by kernel_rfl) (by kernel_rfl) (by decide)).trans (hf 12 (by decide) (by kernel_rfl)).1
    obtain⟨i0,hi0,hz0,hz1,hz2⟩:=info_parts HLI.out
    refine AV.app u _ _ 35 rfl u.heap.size 121 i0 _ 2 16 Tryz.underlying35 hi0 hz0 hz1 hz2 rfl (by decide) (.slice (some ⟨x 10,0,none⟩) 0 0) 0 [] e10 (Ac.zero _ _ _ _ _) (.slice n4.1 n4.2.1 n4.2.2) D.ls.length (D.ls.map AN).flatten e12 (HL.out u bw) HL1.out.1 HL1.out.2 (by have:=HLN.out;unfold maxLen;omega) (by have:=HLN.out;omega) (Nat.le_refl _) ?_
    intro v1 u2 AP;obtain⟨rb,ro,_⟩:=AP.fresh
    obtain⟨ra,rq,rfl⟩:=ro.slice
    simp only[Nat.zero_add,List.nil_append] at ro
    exact⟨rb,(ra,_,rq),by simp only[Nat.zero_add],Ar.made ro⟩
   ·simp only[List.getElem?_cons_succ,List.getElem?_cons_zero,Option.some.injEq] at ho
    subst ho;have e1:=(hv 1 7 (by decide) (by kernel_rfl) (by kernel_rfl) (by decide)).trans (hf 1 (by decide) (by kernel_rfl)).1
    obtain⟨⟨z5,h5,k5⟩,t5⟩:=hf 5 (by decide) (by kernel_rfl)
    have e5:=(hv 5 11 (by decide) (by kernel_rfl) (by kernel_rfl) (by decide)).trans h5
    obtain⟨⟨z9,h9,k9⟩,t9⟩:=hf 9 (by decide) (by kernel_rfl)
    have e9:=(hv 9 15 (by decide) (by kernel_rfl) (by kernel_rfl) (by decide)).trans h9
    obtain⟨⟨z13,h13,k13⟩,t13⟩:=hf 13 (by decide) (by kernel_rfl)
    have e13:=(hv 13 19 (by decide) (by kernel_rfl) (by kernel_rfl) (by decide)).trans h13
    exact AV.value (v:= .agg #[.int .i64 sz, .slice none 0 0, .slice none 0 0, .slice z5.1 z5.2.1 z5.2.2, .slice z9.1 z9.2.1 z9.2.2, .slice z13.1 z13.2.1 z13.2.2]) (w' :=u) (by go_simp) ⟨Ltp.refl _,z5,z9,z13,x 5,y 5,x 9,y 9,x 13,y 13,rfl,k5,k9,k13,t5,t9,t13,hpw 5 9 (by decide) (by decide) (by kernel_rfl) (by kernel_rfl) (by decide),hpw 5 13 (by decide) (by decide) (by kernel_rfl) (by kernel_rfl) (by decide),hpw 9 13 (by decide) (by decide) (by kernel_rfl) (by kernel_rfl) (by decide)⟩
   ·simp only[List.getElem?_cons_succ,List.getElem?_cons_zero,Option.some.injEq] at ho
    subst ho;exact AV.value (v:= .pointer (some ⟨u.heap.size,0,none⟩)) (w' :=u.alloc (.cells #[.int .i64 0, .slice none 0 0, .slice none 0 0, .slice none 0 0, .slice none 0 0, .slice none 0 0] 37)) (by go_simp) ⟨Ae _ _,rfl,by simp,Ai.start _ _ _⟩
   ·exact absurd hi13 (by omega)
  case fin=>
   intro v x y u hu ht hf;have h11:=hf 14 (by decide)
   have h12:=hf 15 (by decide)
   have t12:=ht.1 15 (by decide) rfl
   have t11:=ht.1 14 (by decide) rfl
   show Oper.wp _ _ _ _ _ _
   simp only[Dm,Ef,List.getElem?_cons_zero,List.getElem?_cons_succ,Option.bind_some,if_true,List.length_cons,List.length_nil,Act.put,List.setIfInBounds_toArray,List.set_cons_zero,List.set_cons_succ]
   clear hf ht;refine h11.elim fun z4 h11=>h11.elim fun z7 h11=>h11.elim fun z10 h11=>h11.elim fun a4 h11=>h11.elim fun b4 h11=>h11.elim fun a7 h11=>h11.elim fun b7 h11=>h11.elim fun a10 h11=>h11.elim fun b10 h11=> ?_
   have e11:=h11.1
   have e12:=h12.1
   have g11:=Aj h11.2
   have m12:=h12.2.2
   have l12:=Aj h12.2.1
   have t12:=Aj t12
   have t11:=Aj t11
   clear h11 h12;rw[e11,e12]
   clear e11 e12;generalize x 15=X at *
   have bw:Hid (Below w.heap.size w u):=B0.out.trans ((((Below.refl V0.heap.size V0).drew.trans hu)).mono B0.out.size)
   have hu2:Hid (Below V0.heap.size V0 u):=(Below.refl V0.heap.size V0).drew.trans hu
   have FU:Hid (Flt w #[.int .i64 sz, .slice a0 D.ns.length p0, .slice a1 D.rs.length p1, .slice n2.1 n2.2.1 n2.2.2, .slice n3.1 n3.2.1 n3.2.2, .slice n4.1 n4.2.1 n4.2.2] X u.heap.size (.slice z4.1 z4.2.1 z4.2.2) (.slice z7.1 z7.2.1 z7.2.2) (.slice z10.1 z10.2.1 z10.2.2) D u):=by
    obtain⟨o4,o7,o10,t4,t7,t10,p1,p2,p3⟩:=g11.out
    have s0:=ZZ.out
    have s1:V0.heap.size<=X:=t12.out.1
    have s2:=l12.out
    have s3:=t12.out.2.2
    have s4:=t11.out.2.1
    have s5:=t11.out.2.2
    refine⟨bw.out,M0.out.step hu2.out,M1.out.step hu2.out,⟨by omega,by omega,Nat.le_refl _⟩,a4,b4,a7,b7,a10,b10,o4,o7,o10,⟨by omega,by omega,by omega⟩,⟨by omega,by omega,by omega⟩,⟨by omega,by omega,by omega⟩,p1,p2,p3, ?_⟩
    rintro g (hg|hg|hg)
    ·exact Hn m12 o4.1 (by decide) g hg
    ·exact Hn m12 o7.1 (by decide) g hg
    ·exact Hn m12 o10.1 (by decide) g hg
   have hu:=Aj hu
   have fz:∀j,u.frozen? ⟨X,j,none⟩=false:=fun j=>Ab m12
   have dz:∀j,u.cell? ⟨X,j,none⟩=(#[.int .i64 0, .slice none 0 0, .slice none 0 0, .slice none 0 0, .slice none 0 0, .slice none 0 0]:Array Value)[j]? :=m12.cells
   have GC:=Aj (((((((Chg.refl (fun g=>g=X) u).setAt X 0 rfl (.int .i64 sz)).setAt X 1 rfl (.slice none 0 0)).setAt X 2 rfl (.slice none 0 0)).setAt X 3 rfl (.slice z4.1 z4.2.1 z4.2.2)).setAt X 4 rfl (.slice z7.1 z7.2.1 z7.2.2)).setAt X 5 rfl (.slice z10.1 z10.2.1 z10.2.2))
   have nB:((((((u.setCell ⟨X,0,none⟩ (.int .i64 sz)).setCell ⟨X,1,none⟩ (.slice none 0 0)).setCell ⟨X,2,none⟩ (.slice none 0 0)).setCell ⟨X,3,none⟩ (.slice z4.1 z4.2.1 z4.2.2)).setCell ⟨X,4,none⟩ (.slice z7.1 z7.2.1 z7.2.2)).setCell ⟨X,5,none⟩ (.slice z10.1 z10.2.1 z10.2.2)).heap[X]? =some (.cells #[.int .i64 sz, .slice none 0 0, .slice none 0 0, .slice z4.1 z4.2.1 z4.2.2, .slice z7.1 z7.2.1 z7.2.2, .slice z10.1 z10.2.1 z10.2.2] 37 (0,0)):=heap_setCell_same _ X 5 _ _ _ (heap_setCell_same _ X 4 _ _ _ (heap_setCell_same _ X 3 _ _ _ (heap_setCell_same _ X 2 _ _ _ (heap_setCell_same _ X 1 _ _ _ (heap_setCell_same u X 0 _ _ _ m12)))))
   have nB:=Aj nB
   have m12:=Aj m12
   go_wp2_with fail;go_meet;exact⟨X,u.heap.size,z4,z7,z10,rfl,FU.out.setX GC.out,nB.out⟩
 case rest=>
  clear B0 M0 M1 ZZ HC HC1 HCN HCI HD HD1 HDN HDI HL HL1 HLN HLI;refine hcut.elim fun X hcut=>hcut.elim fun m hcut=>hcut.elim fun z4 hcut=>hcut.elim fun z7 hcut=>hcut.elim fun z10 hcut=> ?_
  have eX:=hcut.1
  have G:=hcut.2.1
  have BX:=hcut.2.2
  clear hcut;subst eX;obtain⟨i0,hi0,hz0,hz1,hz2⟩:=info_parts (show(Tryz.prog.info? 73).map (fun i=>(i.zero,i.size,i.bytes))=some (some (.agg Kr.toArray),23,408) by kernel_rfl)
  have BS:=hq (fun (ks:List Value) (hl:ks.length=23)=>Bw (P:=Tryz.prog) 73 i0 _ 23 hi0 hz0 hz1 (by decide) (by decide) ks hl)
  have cA:=G.out.2.1.cells
  go_wp2_with fail;clear cA;go_loopw [4] (fun i wr=>∃(j:Nat) (v:Value) (fs:List BH),j<=D.ns.length/\i= .int .i64 j/\Hid (Bs Dv (D.ns.take j) fs)/\Hid (Flt w #[.int .i64 sz, .slice a0 D.ns.length p0, .slice a1 D.rs.length p1, .slice n2.1 n2.2.1 n2.2.2, .slice n3.1 n3.2.1 n3.2.2, .slice n4.1 n4.2.1 n4.2.2] X m (.slice z4.1 z4.2.1 z4.2.2) (.slice z7.1 z7.2.1 z7.2.2) (.slice z10.1 z10.2.1 z10.2.2) D wr)/\Hid (LsI Ax (OR n) Ap 73 23 wr m wr.heap.size v fs)/\Hid (Ai 37 wr X #[.int .i64 sz,v, .slice none 0 0, .slice z4.1 z4.2.1 z4.2.2, .slice z7.1 z7.2.1 z7.2.2, .slice z10.1 z10.2.1 z10.2.2]))
   (fun i _=>D.ns.length-(intOf i).toNat)
  case atStart=>exact⟨0,_,[],Nat.zero_le _,rfl,⟨by simp,fun i h=>by simp at h⟩,G.out,LsI.nil _ G.out.2.2.2.1.2.2 (Nat.le_refl _),BX.out⟩
  case round=>
   obtain⟨j,v,fs,hj,rfl,LK,G,LI,BX⟩:=hrel
   by_cases hlt:j<D.ns.length
   ·have hi2:(j:Int)<(D.ns.length:Int):=by omega
    have hal:=HA.out (by omega)
    subst hal;obtain⟨ks,hks⟩:∃ks:List Value,ks=Ax D.ns[j]:=⟨_,rfl⟩
    have hkl:ks.length=23:=by rw[hks];rfl
    have BW:=hq G.out.1
    have RU:Hid (∀u,Below w.heap.size w u->u.rangeAt b0 (off0+j*23) ks):=by rw[hks];exact fun u hu=>RG.out u hu j hlt
    have VE:D.ns[j].1.val= .agg ks.toArray:=by rw[hks];rfl
    have ONE:Hid (ks.toArray.all (·.oneCell')=true):=by rw[hks];exact ON1.out j hlt
    have CJ:Hid (∀u:World,Below w.heap.size w u->Calls Tryz.prog 60 #[.agg ks.toArray] u fun e w' =>∃M:AL,e= .returned M.val/\D.ns[j].1.like M/\Ey n w' (fun g=>u.heap.size<=g) M D.ns[j].2/\Below u.heap.size u w'):=by have h:=CN.out j hlt;rw[VE] at h;exact h
    clear VE hks;have HM1:Hid ((Tryz.prog.info? 73).map (·.size)=some ks.length):=by show _=_;rw[hkl];exact(show(Tryz.prog.info? 73).map (·.size)=some 23 by kernel_rfl)
    have cA:=G.out.2.1.cells
    have B3:Hid (Below wr.heap.size wr wr):=Below.refl _ _
    go_upto_region 5 with fail
    clear cA ONE;obtain⟨a9,q9,hv9⟩:=Ac.slice LI.out.1
    subst hv9;have BX3:=hq (BX.out.step B3.out)
    have KE:Hid (∀u,Below wr.heap.size wr u->(fun u:World=>u.rangeAt b0 (off0+j*23) ks/\u.cell? ⟨X,1,none⟩=some (.slice a9 fs.length q9)/\u.cell? ⟨w.heap.size,1,none⟩=some (.slice (some ⟨b0,off0,none⟩) D.ns.length p0)) u):=fun u hu=>⟨RU.out u (Below.and BW.out hu),((BX3.out.step hu).cells 1).trans rfl,((G.out.2.1.step hu).cells 1).trans rfl⟩
    have RF:Hid (Below wr.heap.size wr wr.drew):=(Below.refl _ _).drew
    refine Bx (fun u:World=>u.rangeAt b0 (off0+j*23) ks/\u.cell? ⟨X,1,none⟩=some (.slice a9 fs.length q9)/\u.cell? ⟨w.heap.size,1,none⟩=some (.slice (some ⟨b0,off0,none⟩) D.ns.length p0)) [_,_,_,_,_,_,_,_,_,_,_] _ rfl (by kernel_rfl) (by kernel_rfl) ?_
    refine tk 0 (oi:=⟨_,_,_,_,_,_⟩) (v:= ?_) rfl (by kernel_rfl) (fun _ _ _ h=>h) (Or.inl ⟨by rfl, ?_⟩) (KE.out _ RF.out) ?_
    rotate_left
    ·(intro u hu;obtain⟨s0,s1,s2⟩:=hu;go_simp)
     try with_reducible rfl
    try simp only[Act.put,sA,sB,sC]
    refine tk 1 (oi:=⟨_,_,_,_,_,_⟩) (v:= ?_) rfl (by kernel_rfl) (fun _ _ _ h=>h) (Or.inl ⟨by rfl, ?_⟩) (KE.out _ RF.out) ?_
    rotate_left
    ·(intro u hu;obtain⟨s0,s1,s2⟩:=hu;go_simp)
     try with_reducible rfl
    try simp only[Act.put,sA,sB,sC]
    refine tk 2 (oi:=⟨_,_,_,_,_,_⟩) (v:= ?_) rfl (by kernel_rfl) (fun _ _ _ h=>h) (Or.inl ⟨by rfl, ?_⟩) (KE.out _ RF.out) ?_
    rotate_left
    ·(intro u hu;obtain⟨s0,s1,s2⟩:=hu;go_simp)
     try with_reducible rfl
    try simp only[Act.put,sA,sB,sC]
    refine tk 3 (oi:=⟨_,_,_,_,_,_⟩) (v:= ?_) rfl (by kernel_rfl) (fun _ _ _ h=>h) (Or.inl ⟨by rfl, ?_⟩) (KE.out _ RF.out) ?_
    rotate_left
    ·(intro u hu;obtain⟨s0,s1,s2⟩:=hu;go_simp)
     try with_reducible rfl
    try simp only[Act.put,sA,sB,sC]
    refine tk 4 (oi:=⟨_,_,_,_,_,_⟩) (v:= ?_) rfl (by kernel_rfl) (fun _ _ _ h=>h) (Or.inl ⟨by rfl, ?_⟩) (KE.out _ RF.out) ?_
    rotate_left
    ·(intro u hu;obtain⟨s0,s1,s2⟩:=hu;go_simp)
     try with_reducible rfl
    try simp only[Act.put,sA,sB,sC]
    refine tk 5 (oi:=⟨_,_,_,_,_,_⟩) (v:= ?_) rfl (by kernel_rfl) (fun _ _ _ h=>h) (Or.inl ⟨by rfl, ?_⟩) (KE.out _ RF.out) ?_
    rotate_left
    ·(intro u hu;obtain⟨s0,s1,s2⟩:=hu;go_simp)
     try with_reducible rfl
    try simp only[Act.put,sA,sB,sC]
    refine tk 6 (oi:=⟨_,_,_,_,_,_⟩) (v:= .agg (ks).toArray) rfl (by kernel_rfl) (fun _ _ _ h=>h) (yieldsIf_load_mid rfl 73 _ rfl b0 (off0+j*23) rfl (ks) _ (fun u hu=>hu.1) Tryz.underlying73 rfl HM1.out) (KE.out _ RF.out) ?_
    try simp only[Act.put,sA,sB,sC]
    have Rwr:=hq (Below.and BW.out B3.out)
    have C:=hq (CJ.out wr.drew (Below.and Rwr.out RF.out))
    clear CJ;refine wpAnyH_ready (rs:=[7]) (by kernel_rfl) (by simp) ?_
    refine AllReadyH.cons (o:=⟨_,_,_,_,_,_⟩) rfl (fun K hK=> ?_) AllReadyH.nil
    refine(if_pos (show Region.wanted _ _=true by kernel_rfl)).mpr ?_
    refine Bm 60 [.tmp 34] #[73] rfl So _ rfl C.out ?_
    rintro e w3 ⟨M,rfl,hl,hn,hb⟩
    clear C;obtain⟨ms,hms⟩:∃ms:List Value,ms=Ax (M,D.ns[j].2):=⟨_,rfl⟩
    have VM:M.val= .agg ms.toArray:=by rw[hms];rfl
    have hml:ms.length=23:=by rw[hms];rfl
    have ONM:Hid (∀y∈ms,y.oneCell' =true):=fun y hy=>by have:=Array.all_eq_true_iff_forall_mem.1 (show(Ax (M,D.ns[j].2)).toArray.all (·.oneCell')=true from hn.at.ones) y (by rw[hms] at hy;simpa using hy);exact this
    have KM:Hid (ms=Ax (M,D.ns[j].2)):=hms
    clear hms;refine⟨M.val,rfl, ?_⟩
    rw[VM]
    clear VM;have b3:=hq (Below.and RF.out hb)
    have NM:=hq (hn.ltF)
    have HL:=hq hl
    have LO:Hid (wr.drew.heap.size=wr.heap.size):=rfl
    clear hb hn hl;refine hK.out _ _ (KE.out _ b3.out) (fun hH2=> ?_)
    clear hK K hH2;try simp only[Act.put,sA,sB,sC]
    refine wpAnyH_ready (rs:=[8]) (by kernel_rfl) (by simp) ?_
    refine AllReadyH.cons (o:=⟨_,_,_,_,_,_⟩) rfl (fun K hK=> ?_) AllReadyH.nil
    refine(if_pos (show Region.wanted _ _=true by kernel_rfl)).mpr ?_
    refine D9 31 73 1 _ rfl Tryz.underlying31 ms.toArray (by rw[Array.toList_map];exact BS.out ms hml) ?_
    have b4:Below w3.heap.size w3 (w3.alloc (.cells ms.toArray 73)):=Ae _ _
    have HR:Hid (Row (w3.alloc (.cells ms.toArray 73)) (.slice (some ⟨w3.heap.size,0,none⟩) 1 1) 1 ms):=Row.laid w3 ms 73 _ rfl
    have B4:=hq (Below.and b3.out b4)
    have NM4:=hq (NM.out.below b4)
    have W34:Hid (w3.heap.size<=(w3.alloc (.cells ms.toArray 73)).heap.size):=b4.size
    clear b4 NM;refine hK.out _ _ (KE.out _ B4.out) (fun hH2=> ?_)
    clear hK K hH2;generalize (w3.alloc (.cells ms.toArray 73))=W4 at *
    try simp only[Act.put,sA,sB,sC]
    have B5:=hq (Below.and B3.out B4.out)
    have OE:=hq (LI.out.1.below B5.out)
    have LM:Hid (fs.length=j):=by have:=LK.out.1;rw[List.length_take] at this;show _=_;omega
    have RM:Hid (fs.length+1<=maxLen/\(fs.length+1)*408<=140737488355328/\m<=W4.heap.size):=by have:=LM.out;have:=hs.n;have:=LI.out.2.2.1;have:=B5.out.size;unfold maxLen;exact⟨by omega,by omega,by omega⟩
    refine wpAnyH_ready (rs:=[9]) (by kernel_rfl) (by simp) ?_
    refine AllReadyH.cons (o:=⟨_,_,_,_,_,_⟩) rfl (fun K hK=> ?_) AllReadyH.nil
    refine(if_pos (show Region.wanted _ _=true by kernel_rfl)).mpr ?_
    refine DW W4 _ _ 31 rfl m 73 i0 _ 23 408 Tryz.underlying31 hi0 hz0 hz1 hz2 rfl (by decide) (.slice a9 fs.length q9) fs.length (fs.map Ax).flatten rfl OE.out (.slice (some ⟨w3.heap.size,0,none⟩) 1 1) 1 ms rfl HR.out (by rw[hml]) ONM.out RM.out.1 RM.out.2.1 RM.out.2.2 ?_
    intro v' x AP;have LK6:=hq (Bs.snoc hlt (y:=(M,D.ns[j].2)) LK.out ⟨HL.out,rfl⟩)
    have LI5:=hq (LI.out.snoc (x:=wr.drew.heap.size) (y:=w3.heap.size) (f:=(M,D.ns[j].2)) (Hv n) B5.out NM4.out (by have:=LO.out;omega) (by have:=b3.out.size;have:=LO.out;omega) W34.out (by rw[←KM.out];exact AP))
    obtain⟨ao,cp,bp,wq⟩:=AP
    obtain⟨a8,q8,hv8⟩:=Ac.slice ao
    subst hv8;have XM:=hq G.out.2.2.2.1
    have PV:Hid (∀g,wrB (.slice a9 fs.length q9) g->m<=g/\g<wr.heap.size):=fun g hg=>⟨(OE.out.lt g hg).1,LI.out.2.1 g hg⟩
    have bx:Ai 37 x X #[.int .i64 sz, .slice a9 fs.length q9, .slice none 0 0, .slice z4.1 z4.2.1 z4.2.2, .slice z7.1 z7.2.1 z7.2.2, .slice z10.1 z10.2.1 z10.2.2]:=Al (BX3.out.step B4.out) cp (fun hg=>by have:=(PV.out _ hg).1;have:=XM.out.2.1;omega)
    have G5:=hq ((G.out.step B5.out).chgM cp (fun g hg=>(PV.out g hg).1))
    have S7:Hid (x.rangeAt b0 (off0+j*23) ks):=RU.out x G5.out.1
    have S9:Hid (x.cell? ⟨w.heap.size,1,none⟩=some (.slice (some ⟨b0,off0,none⟩) D.ns.length p0)):=(G5.out.2.1.cells 1).trans rfl
    have S8:Hid (x.cell? ⟨X,1,none⟩=some (.slice a9 fs.length q9)):=(bx.cells 1).trans rfl
    have ch:Chg (fun g=>g=X) x (x.setCell ⟨X,1,none⟩ (.slice a8 (fs.length+1) q8)):=(Chg.refl (fun g=>g=X) x).setAt X 1 rfl _
    have FIN:Hid (Flt w #[.int .i64 sz, .slice (some ⟨b0,off0,none⟩) D.ns.length p0, .slice a1 D.rs.length p1, .slice n2.1 n2.2.1 n2.2.2, .slice n3.1 n3.2.1 n3.2.2, .slice n4.1 n4.2.1 n4.2.2] X m (.slice z4.1 z4.2.1 z4.2.2) (.slice z7.1 z7.2.1 z7.2.2) (.slice z10.1 z10.2.1 z10.2.2) D (x.setCell ⟨X,1,none⟩ (.slice a8 (fs.length+1) q8))/\LsI Ax (OR n) Ap 73 23 (x.setCell ⟨X,1,none⟩ (.slice a8 (fs.length+1) q8)) m (x.setCell ⟨X,1,none⟩ (.slice a8 (fs.length+1) q8)).heap.size (.slice a8 (fs.length+1) q8) (fs++[(M,D.ns[j].2)])/\Ai 37 (x.setCell ⟨X,1,none⟩ (.slice a8 (fs.length+1) q8)) X #[.int .i64 sz, .slice a8 (fs.length+1) q8, .slice none 0 0, .slice z4.1 z4.2.1 z4.2.2, .slice z7.1 z7.2.1 z7.2.2, .slice z10.1 z10.2.1 z10.2.2]):=
     ⟨G5.out.setX ch,(LI5.out.chg (Hv n) ch (fun g hg _ e=>by have:=XM.out.2.1;omega)).up (Nat.le_refl _) ch.size (Nat.le_refl _),heap_setCell_same x X 1 _ _ _ bx⟩
    have bx:=hq bx
    clear ao cp bp wq ch LI5 G5 PV XM OE RM LM HL KM NM4 W34 LO HR ONM B4 b3 KE RF BX3 B3 LI G LK HM1 Rwr;refine hK.out _ _ ⟨S7.out,S8.out,S9.out⟩ (fun hH2=> ?_)
    clear hK K hH2;try simp only[Act.put,sA,sB,sC]
    refine tk 10 (oi:=⟨_,_,_,_,_,_⟩) (v:= ?_) rfl (by kernel_rfl) (fun _ _ _ h=>h) (Or.inl ⟨by rfl, ?_⟩) ⟨S7.out,S8.out,S9.out⟩ ?_
    rotate_left
    ·(intro u hu;obtain⟨s0,s1,s2⟩:=hu;go_simp)
     try with_reducible rfl
    try simp only[Act.put,sA,sB,sC]
    clear S7 S8 S9;refine wpAnyH_done (by kernel_rfl) ?_ _
    show Oper.wp _ _ _ _ _ _
    have c5:=bx.out.cells
    have f5:∀q,x.frozen? ⟨X,q,none⟩=false:=fun q=>Ab bx.out
    have hsn:=hs.n
    go_wp2_with fail;go_roundw
    case rel=>exact⟨j+1,_,_,by omega,by go_num,LK6.out,FIN.out.1,FIN.out.2.1,FIN.out.2.2⟩
    case measure=>simp[intOf];omega
   ·have hi2:¬(j:Int)<(D.ns.length:Int):=by omega
    have hjn:j=D.ns.length:=by omega
    subst hjn;rw[List.take_length] at LK
    obtain⟨a9,q9,hv9⟩:=Ac.slice LI.out.1
    subst hv9;clear BS hi0 hz0 hz1 hz2 ON1 CN HA RG;have cA:=G.out.2.1.cells
    go_wp2_with fail;clear cA;obtain⟨NV,hNV⟩:∃NV:Value,NV= .slice a9 fs.length q9:=⟨_,rfl⟩
    have XM0:=hq G.out.2.2.2.1
    rw[←hNV] at BX LI
    clear hNV;have LN:=LI
    clear LI;obtain⟨c,hc⟩:∃c:Nat,c=wr.heap.size:=⟨_,rfl⟩
    rw[←hc] at LN
    have hc2:c<=wr.heap.size:=Nat.le_of_eq hc
    clear hc;obtain⟨i0,hi0,hz0,hz1,hz2⟩:=info_parts (show(Tryz.prog.info? 87).map (fun i=>(i.zero,i.size,i.bytes))=some (some (.agg #[.int .i64 0, .int .i64 0, .int .i64 0, .int .i64 0, .int .i64 0, .int .i64 0, .int .i64 0, .bool false, .slice none 0 0, .bool false, .slice none 0 0, .slice none 0 0, .slice none 0 0, .slice none 0 0, .slice none 0 0]),15,216) by kernel_rfl)
    have BS:=hq (fun (ks:List Value) (hl:ks.length=15)=>Bw (P:=Tryz.prog) 87 i0 _ 15 hi0 hz0 hz1 (by decide) (by decide) ks hl)
    go_loopw [5] (fun i wr=>∃(j:Nat) (v:Value) (gs:List BU),j<=D.rs.length/\i= .int .i64 j/\Hid (Bs Dx (D.rs.take j) gs)/\Hid (Flt w #[.int .i64 sz, .slice a0 D.ns.length p0, .slice a1 D.rs.length p1, .slice n2.1 n2.2.1 n2.2.2, .slice n3.1 n3.2.1 n3.2.2, .slice n4.1 n4.2.1 n4.2.2] X m (.slice z4.1 z4.2.1 z4.2.2) (.slice z7.1 z7.2.1 z7.2.2) (.slice z10.1 z10.2.1 z10.2.2) D wr)/\Hid (LsI AU (RO n) Av 87 15 wr c wr.heap.size v gs)/\Hid (Ai 37 wr X #[.int .i64 sz,NV,v, .slice z4.1 z4.2.1 z4.2.2, .slice z7.1 z7.2.1 z7.2.2, .slice z10.1 z10.2.1 z10.2.2])/\Hid (LsI Ax (OR n) Ap 73 23 wr m c NV fs))
     (fun i _=>D.rs.length-(intOf i).toNat)
    case atStart=>exact⟨0,_,[],Nat.zero_le _,rfl,⟨by simp,fun i h=>by simp at h⟩,G.out,LsI.nil _ hc2 (Nat.le_refl _),BX.out,LN.out⟩
    case round=>
     obtain⟨j,v,gs,hj,rfl,LR,G,LI,BX,LN⟩:=hrel
     by_cases hlt:j<D.rs.length
     ·have hi2:(j:Int)<(D.rs.length:Int):=by omega
      have MC:=LN.out.2.2.1
      have hal:=HA1.out (by omega)
      subst hal;obtain⟨ks,hks⟩:∃ks:List Value,ks=AU D.rs[j]:=⟨_,rfl⟩
      have hkl:ks.length=15:=by rw[hks];rfl
      have BW:=hq G.out.1
      have RU:Hid (∀u,Below w.heap.size w u->u.rangeAt b1 (off1+j*15) ks):=by rw[hks];exact fun u hu=>RG1.out u hu j hlt
      have VE:D.rs[j].1.val= .agg ks.toArray:=by rw[hks];rfl
      have ONE:Hid (ks.toArray.all (·.oneCell')=true):=by rw[hks];exact ON2.out j hlt
      have CJ:Hid (∀u:World,Below w.heap.size w u->Calls Tryz.prog 28 #[.agg ks.toArray] u fun e w' =>∃M:BP,e= .returned M.val/\D.rs[j].1.like M/\Fh n w' (fun g=>u.heap.size<=g) M D.rs[j].2/\Below u.heap.size u w'):=by have h:=CR.out j hlt;rw[VE] at h;exact h
      clear VE hks;have HM1:Hid ((Tryz.prog.info? 87).map (·.size)=some ks.length):=by show _=_;rw[hkl];exact(show(Tryz.prog.info? 87).map (·.size)=some 15 by kernel_rfl)
      have cA:=G.out.2.1.cells
      have B3:Hid (Below wr.heap.size wr wr):=Below.refl _ _
      go_upto_region 9 with fail
      clear cA ONE;obtain⟨a9,q9,hv9⟩:=Ac.slice LI.out.1
      subst hv9;have BX3:=hq (BX.out.step B3.out)
      have KE:Hid (∀u,Below wr.heap.size wr u->(fun u:World=>u.rangeAt b1 (off1+j*15) ks/\u.cell? ⟨X,2,none⟩=some (.slice a9 gs.length q9)/\u.cell? ⟨w.heap.size,2,none⟩=some (.slice (some ⟨b1,off1,none⟩) D.rs.length p1)) u):=fun u hu=>⟨RU.out u (Below.and BW.out hu),((BX3.out.step hu).cells 2).trans rfl,((G.out.2.1.step hu).cells 2).trans rfl⟩
      have RF:Hid (Below wr.heap.size wr wr.drew):=(Below.refl _ _).drew
      refine Bx (fun u:World=>u.rangeAt b1 (off1+j*15) ks/\u.cell? ⟨X,2,none⟩=some (.slice a9 gs.length q9)/\u.cell? ⟨w.heap.size,2,none⟩=some (.slice (some ⟨b1,off1,none⟩) D.rs.length p1)) [_,_,_,_,_,_,_,_,_,_,_] _ rfl (by kernel_rfl) (by kernel_rfl) ?_
      refine tk 0 (oi:=⟨_,_,_,_,_,_⟩) (v:= ?_) rfl (by kernel_rfl) (fun _ _ _ h=>h) (Or.inl ⟨by rfl, ?_⟩) (KE.out _ RF.out) ?_
      rotate_left
      ·(intro u hu;obtain⟨s0,s1,s2⟩:=hu;go_simp)
       try with_reducible rfl
      try simp only[Act.put,sA,sB,sC]
      refine tk 1 (oi:=⟨_,_,_,_,_,_⟩) (v:= ?_) rfl (by kernel_rfl) (fun _ _ _ h=>h) (Or.inl ⟨by rfl, ?_⟩) (KE.out _ RF.out) ?_
      rotate_left
      ·(intro u hu;obtain⟨s0,s1,s2⟩:=hu;go_simp)
       try with_reducible rfl
      try simp only[Act.put,sA,sB,sC]
      refine tk 2 (oi:=⟨_,_,_,_,_,_⟩) (v:= ?_) rfl (by kernel_rfl) (fun _ _ _ h=>h) (Or.inl ⟨by rfl, ?_⟩) (KE.out _ RF.out) ?_
      rotate_left
      ·(intro u hu;obtain⟨s0,s1,s2⟩:=hu;go_simp)
       try with_reducible rfl
      try simp only[Act.put,sA,sB,sC]
      refine tk 3 (oi:=⟨_,_,_,_,_,_⟩) (v:= ?_) rfl (by kernel_rfl) (fun _ _ _ h=>h) (Or.inl ⟨by rfl, ?_⟩) (KE.out _ RF.out) ?_
      rotate_left
      ·(intro u hu;obtain⟨s0,s1,s2⟩:=hu;go_simp)
       try with_reducible rfl
      try simp only[Act.put,sA,sB,sC]
      refine tk 4 (oi:=⟨_,_,_,_,_,_⟩) (v:= ?_) rfl (by kernel_rfl) (fun _ _ _ h=>h) (Or.inl ⟨by rfl, ?_⟩) (KE.out _ RF.out) ?_
      rotate_left
      ·(intro u hu;obtain⟨s0,s1,s2⟩:=hu;go_simp)
       try with_reducible rfl
      try simp only[Act.put,sA,sB,sC]
      refine tk 5 (oi:=⟨_,_,_,_,_,_⟩) (v:= ?_) rfl (by kernel_rfl) (fun _ _ _ h=>h) (Or.inl ⟨by rfl, ?_⟩) (KE.out _ RF.out) ?_
      rotate_left
      ·(intro u hu;obtain⟨s0,s1,s2⟩:=hu;go_simp)
       try with_reducible rfl
      try simp only[Act.put,sA,sB,sC]
      refine tk 6 (oi:=⟨_,_,_,_,_,_⟩) (v:= .agg (ks).toArray) rfl (by kernel_rfl) (fun _ _ _ h=>h) (yieldsIf_load_mid rfl 87 _ rfl b1 (off1+j*15) rfl (ks) _ (fun u hu=>hu.1) Tryz.underlying87 rfl HM1.out) (KE.out _ RF.out) ?_
      try simp only[Act.put,sA,sB,sC]
      have Rwr:=hq (Below.and BW.out B3.out)
      have C:=hq (CJ.out wr.drew (Below.and Rwr.out RF.out))
      clear CJ;refine wpAnyH_ready (rs:=[7]) (by kernel_rfl) (by simp) ?_
      refine AllReadyH.cons (o:=⟨_,_,_,_,_,_⟩) rfl (fun K hK=> ?_) AllReadyH.nil
      refine(if_pos (show Region.wanted _ _=true by kernel_rfl)).mpr ?_
      refine Bm 28 [.tmp 52] #[87] rfl QT _ rfl C.out ?_
      rintro e w3 ⟨M,rfl,hl,hn,hb⟩
      clear C;obtain⟨ms,hms⟩:∃ms:List Value,ms=AU (M,D.rs[j].2):=⟨_,rfl⟩
      have VM:M.val= .agg ms.toArray:=by rw[hms];rfl
      have hml:ms.length=15:=by rw[hms];rfl
      have ONM:Hid (∀y∈ms,y.oneCell' =true):=fun y hy=>by have:=Array.all_eq_true_iff_forall_mem.1 (show(AU (M,D.rs[j].2)).toArray.all (·.oneCell')=true from hn.at.ones) y (by rw[hms] at hy;simpa using hy);exact this
      have KM:Hid (ms=AU (M,D.rs[j].2)):=hms
      clear hms;refine⟨M.val,rfl, ?_⟩
      rw[VM]
      clear VM;have b3:=hq (Below.and RF.out hb)
      have NM:=hq (hn.ltF)
      have HL:=hq hl
      have LO:Hid (wr.drew.heap.size=wr.heap.size):=rfl
      clear hb hn hl;refine hK.out _ _ (KE.out _ b3.out) (fun hH2=> ?_)
      clear hK K hH2;try simp only[Act.put,sA,sB,sC]
      refine wpAnyH_ready (rs:=[8]) (by kernel_rfl) (by simp) ?_
      refine AllReadyH.cons (o:=⟨_,_,_,_,_,_⟩) rfl (fun K hK=> ?_) AllReadyH.nil
      refine(if_pos (show Region.wanted _ _=true by kernel_rfl)).mpr ?_
      refine D9 32 87 1 _ rfl Tryz.underlying32 ms.toArray (by rw[Array.toList_map];exact BS.out ms hml) ?_
      have b4:Below w3.heap.size w3 (w3.alloc (.cells ms.toArray 87)):=Ae _ _
      have HR:Hid (Row (w3.alloc (.cells ms.toArray 87)) (.slice (some ⟨w3.heap.size,0,none⟩) 1 1) 1 ms):=Row.laid w3 ms 87 _ rfl
      have B4:=hq (Below.and b3.out b4)
      have NM4:=hq (Fh.chg NM.out (Chg.of_below (F:=fun _=>False) b4) (fun _ _ e=>e))
      have W34:Hid (w3.heap.size<=(w3.alloc (.cells ms.toArray 87)).heap.size):=b4.size
      clear b4 NM;refine hK.out _ _ (KE.out _ B4.out) (fun hH2=> ?_)
      clear hK K hH2;generalize (w3.alloc (.cells ms.toArray 87))=W4 at *
      try simp only[Act.put,sA,sB,sC]
      have B5:=hq (Below.and B3.out B4.out)
      have OE:=hq (LI.out.1.below B5.out)
      have LM:Hid (gs.length=j):=by have:=LR.out.1;rw[List.length_take] at this;show _=_;omega
      have RM:Hid (gs.length+1<=maxLen/\(gs.length+1)*216<=140737488355328/\c<=W4.heap.size):=by have:=LM.out;have:=hs.r;have:=LI.out.2.2.1;have:=B5.out.size;unfold maxLen;exact⟨by omega,by omega,by omega⟩
      refine wpAnyH_ready (rs:=[9]) (by kernel_rfl) (by simp) ?_
      refine AllReadyH.cons (o:=⟨_,_,_,_,_,_⟩) rfl (fun K hK=> ?_) AllReadyH.nil
      refine(if_pos (show Region.wanted _ _=true by kernel_rfl)).mpr ?_
      refine DW W4 _ _ 32 rfl c 87 i0 _ 15 216 Tryz.underlying32 hi0 hz0 hz1 hz2 rfl (by decide) (.slice a9 gs.length q9) gs.length (gs.map AU).flatten rfl OE.out (.slice (some ⟨w3.heap.size,0,none⟩) 1 1) 1 ms rfl HR.out (by rw[hml]) ONM.out RM.out.1 RM.out.2.1 RM.out.2.2 ?_
      intro v' x AP;have LR6:=hq (Bs.snoc hlt (y:=(M,D.rs[j].2)) LR.out ⟨HL.out,rfl⟩)
      have LI5:=hq (LI.out.snoc (x:=wr.drew.heap.size) (y:=w3.heap.size) (f:=(M,D.rs[j].2)) (NP n) B5.out NM4.out (by have:=LO.out;omega) (by have:=b3.out.size;have:=LO.out;omega) W34.out (by rw[←KM.out];exact AP))
      obtain⟨ao,cp,bp,wq⟩:=AP
      obtain⟨a8,q8,hv8⟩:=Ac.slice ao
      subst hv8;have XM:=hq G.out.2.2.2.1
      have PV:Hid (∀g,wrB (.slice a9 gs.length q9) g->c<=g/\g<wr.heap.size):=fun g hg=>⟨(OE.out.lt g hg).1,LI.out.2.1 g hg⟩
      have bx:Ai 37 x X #[.int .i64 sz,NV, .slice a9 gs.length q9, .slice z4.1 z4.2.1 z4.2.2, .slice z7.1 z7.2.1 z7.2.2, .slice z10.1 z10.2.1 z10.2.2]:=Al (BX3.out.step B4.out) cp (fun hg=>by have:=(PV.out _ hg).1;have:=XM.out.2.1;omega)
      have G5:=hq ((G.out.step B5.out).chgM cp (fun g hg=>Nat.le_trans MC (PV.out g hg).1))
      have S7:Hid (x.rangeAt b1 (off1+j*15) ks):=RU.out x G5.out.1
      have S9:Hid (x.cell? ⟨w.heap.size,2,none⟩=some (.slice (some ⟨b1,off1,none⟩) D.rs.length p1)):=(G5.out.2.1.cells 2).trans rfl
      have S8:Hid (x.cell? ⟨X,2,none⟩=some (.slice a9 gs.length q9)):=(bx.cells 2).trans rfl
      have ch:Chg (fun g=>g=X) x (x.setCell ⟨X,2,none⟩ (.slice a8 (gs.length+1) q8)):=(Chg.refl (fun g=>g=X) x).setAt X 2 rfl _
      have FIN:Hid (Flt w #[.int .i64 sz, .slice a0 D.ns.length p0, .slice (some ⟨b1,off1,none⟩) D.rs.length p1, .slice n2.1 n2.2.1 n2.2.2, .slice n3.1 n3.2.1 n3.2.2, .slice n4.1 n4.2.1 n4.2.2] X m (.slice z4.1 z4.2.1 z4.2.2) (.slice z7.1 z7.2.1 z7.2.2) (.slice z10.1 z10.2.1 z10.2.2) D (x.setCell ⟨X,2,none⟩ (.slice a8 (gs.length+1) q8))/\LsI AU (RO n) Av 87 15 (x.setCell ⟨X,2,none⟩ (.slice a8 (gs.length+1) q8)) c (x.setCell ⟨X,2,none⟩ (.slice a8 (gs.length+1) q8)).heap.size (.slice a8 (gs.length+1) q8) (gs++[(M,D.rs[j].2)])/\Ai 37 (x.setCell ⟨X,2,none⟩ (.slice a8 (gs.length+1) q8)) X #[.int .i64 sz,NV, .slice a8 (gs.length+1) q8, .slice z4.1 z4.2.1 z4.2.2, .slice z7.1 z7.2.1 z7.2.2, .slice z10.1 z10.2.1 z10.2.2]):=
       ⟨G5.out.setX ch,(LI5.out.chg (NP n) ch (fun g hg _ e=>by have:=XM.out.2.1;omega)).up (Nat.le_refl _) ch.size (Nat.le_refl _),heap_setCell_same x X 2 _ _ _ bx⟩
      have FINN:Hid (LsI Ax (OR n) Ap 73 23 (x.setCell ⟨X,2,none⟩ (.slice a8 (gs.length+1) q8)) m c NV fs):=((LN.out.below (Hv n) B5.out).chg (Hv n) cp (fun g _ g2 hg=>by have:=(PV.out g hg).1;omega)).chg (Hv n) ch (fun g g1 _ e=>by have:=XM.out.2.1;omega)
      have bx:=hq bx
      clear ao cp bp wq ch LI5 G5 PV XM OE RM LM HL KM NM4 W34 LO HR ONM B4 b3 KE RF BX3 B3 LI G LR HM1 Rwr;refine hK.out _ _ ⟨S7.out,S8.out,S9.out⟩ (fun hH2=> ?_)
      clear hK K hH2;try simp only[Act.put,sA,sB,sC]
      refine tk 10 (oi:=⟨_,_,_,_,_,_⟩) (v:= ?_) rfl (by kernel_rfl) (fun _ _ _ h=>h) (Or.inl ⟨by rfl, ?_⟩) ⟨S7.out,S8.out,S9.out⟩ ?_
      rotate_left
      ·(intro u hu;obtain⟨s0,s1,s2⟩:=hu;go_simp)
       try with_reducible rfl
      try simp only[Act.put,sA,sB,sC]
      clear S7 S8 S9;refine wpAnyH_done (by kernel_rfl) ?_ _
      show Oper.wp _ _ _ _ _ _
      have c5:=bx.out.cells
      have f5:∀q,x.frozen? ⟨X,q,none⟩=false:=fun q=>Ab bx.out
      have hsn:=hs.r
      go_wp2_with fail;go_roundw
      case rel=>exact⟨j+1,_,_,by omega,by go_num,LR6.out,FIN.out.1,FIN.out.2.1,FIN.out.2.2,FINN.out⟩
      case measure=>simp[intOf];omega
     ·have hi2:¬(j:Int)<(D.rs.length:Int):=by omega
      have hjn:j=D.rs.length:=by omega
      subst hjn;rw[List.take_length] at LR
      obtain⟨a9,q9,hv9⟩:=Ac.slice LI.out.1
      subst hv9;clear BS hi0 hz0 hz1 hz2 ON2 CR HA1 RG1;obtain⟨cs,hcs⟩:∃cs:List Value,cs=[.int .i64 sz,NV, .slice a9 gs.length q9, .slice z4.1 z4.2.1 z4.2.2, .slice z7.1 z7.2.1 z7.2.2, .slice z10.1 z10.2.1 z10.2.2]:=⟨_,rfl⟩
      have RGX:Hid (wr.rangeAt X 0 cs):=by rw[hcs];exact Ao BX.out
      have TH:Hid (wr.there (w.heap.size+1) 0 cs.toArray.size):=by rw[hcs];exact Ba G.out.2.2.1 rfl
      have HI:Hid ((Tryz.prog.info? 37).map (·.size)=some cs.length):=by rw[hcs];exact(show(Tryz.prog.info? 37).map (·.size)=some 6 by kernel_rfl)
      have HI2:Hid ((Tryz.prog.info? 37).map (·.size)=some cs.toArray.size):=by rw[hcs];exact(show(Tryz.prog.info? 37).map (·.size)=some 6 by kernel_rfl)
      have ONE:Hid (cs.toArray.all (·.oneCell')=true):=by obtain⟨_,_,hq1⟩:=Ac.slice LN.out.1;rw[hcs,hq1];show _=_;simp[Value.oneCell']
      have GC:Chg (fun g=>g=w.heap.size+1) wr (wr.setCells (w.heap.size+1) 0 cs):=Chg.setCells (F:=fun b=>b=w.heap.size+1) (g:=w.heap.size+1) (fun _=>rfl) cs 0 wr (Chg.refl _ _)
      have X1:Hid ((wr.setCells (w.heap.size+1) 0 cs).heap[w.heap.size+1]? =some (.cells cs.toArray 37 (0,0))):=A7 G.out.2.2.1 cs (by rw[hcs];rfl)
      have FIN:Hid (∃(V:WrV) (E:Wd),Value.agg cs.toArray=V.val/\sz=V.sz/\D.like E/\WrW n (wr.setCells (w.heap.size+1) 0 cs) w.heap.size (wr.setCells (w.heap.size+1) 0 cs).heap.size V E/\Below w.heap.size w (wr.setCells (w.heap.size+1) 0 cs)):=by
       have MC:=LN.out.2.2.1
       have CW:=LI.out.2.2.1
       obtain⟨h1,h2,h3,h4,a4,b4,a7,b7,a10,b10,o4,o7,o10,r4,r7,r10,y1,y2,y3,_⟩:=G.out
       have hgs:=GC.size
       have e1:=LN.out.chg (Hv n) GC (fun g g1 _ e=>by omega)
       have e2:=LI.out.chg (NP n) GC (fun g g1 _ e=>by omega)
       have e3:=LsI.flat (d:=CU) (o4.chg GC (fun g g1 _ e=>by omega)) r4.2.1 (by omega)
       have e4:=o7.chg GC (fun g g1 _ e=>by omega)
       have e5:=LsI.flat (d:=Cc) (o10.chg GC (fun g g1 _ e=>by omega)) r10.2.1 (by omega)
       refine⟨⟨sz,NV, .slice a9 gs.length q9, .slice z4.1 z4.2.1 z4.2.2, .slice z7.1 z7.2.1 z7.2.2, .slice z10.1 z10.2.1 z10.2.2⟩,⟨fs,gs,D.cs,D.ds,D.ls⟩,by rw[hcs],rfl,⟨LK.out,LR.out,rfl,rfl,rfl⟩,⟨fun i=>match i with|0=>m|1=>c|2=>a4|3=>a7|_=>a10,fun i=>match i with|0=>c|1=>wr.heap.size|2=>b4|3=>b7|_=>b10, ?_, ?_,Nat.le_refl _,e1,e2,e3,e4,e5⟩,h1.trans (GC.below (fun g _ hg=>by omega) h1.size)⟩
       ·intro i hi;rcases i with _|_|_|_|_|i<;>simp only<;>first|omega|exact absurd hi (by omega)
       ·intro i j hi hj hij;rcases i with _|_|_|_|_|i<;>rcases j with _|_|_|_|_|j<;>first|exact absurd rfl hij|exact absurd hi (by omega)|exact absurd hj (by omega)|(simp only;omega)
      have cA:=G.out.2.1.cells
      clear hcs GC G LN LI LK LR BX;go_wp2_with (first|(refine wpList_load_mid rfl 37 _ rfl X 0 rfl cs _ RGX.out Tryz.underlying37 rfl HI.out ?_)|(refine wpList_store_mid rfl 37 _ _ rfl (w.heap.size+1) 0 cs.toArray rfl rfl TH.out HI2.out ONE.out ?_))
      generalize wr.setCells (w.heap.size+1) 0 cs=WF at *
      exact⟨rfl,_,results_cell_row Tryz.results27 _ WF (w.heap.size+1) 37 cs.toArray (0,0) _ rfl X1.out Tryz.underlying37 rfl HI2.out,(by obtain⟨V,E,e,e2,r⟩:=FIN.out;exact⟨V,by rw[e],e2,E,r⟩)⟩
end
end Go.Proofs.YtkcaelfkcepdkaaGreat
