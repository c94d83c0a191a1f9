/-
  The program's slices.Clone, of commands and of Leads.
  One struct behind a list of them: the slice literal of one, and the row that an append leaves.
  The model's copy of a log.
  copyOfLog of the program; LogCut of both sides.
-/
import Derived.Test.YtkcaelfkcepdkaaGreatOfNote20
import Derived.Test.YtkcaelfkcepdkaaGreatOfNote1
import Derived.Test.YtkcaelfkcepdkaaGreatOfNote8
import Derived.Great.Walk
import Derived.Great.FillDense
import Derived.Test.YtkcaelfkcepdkaaGreatOfNote22
import Derived.Deep.RegionHeld3
import Derived.Test.YtkcaelfkcepdkaaGreatOfNote32
import Derived.Test.YtkcaelfkcepdkaaGreatOfNote9
namespace Go.Proofs.YtkcaelfkcepdkaaGreat
set_option maxRecDepth 100000
set_option maxHeartbeats 8000000
section
open Go.RowKit

theorem Tryz.info117:(Tryz.prog.info? 117).map (fun i=>(i.zero,i.size,i.bytes))=some (some (.agg #[.int .i64 0, .int .i64 0, .int .i64 0, .int .i64 0, .int .i64 0]),5,40):=by kernel_rfl
theorem Tryz.info121:(Tryz.prog.info? 121).map (fun i=>(i.zero,i.size,i.bytes))=some (some (.agg #[.int .i64 0, .int .i64 0]),2,16):=by kernel_rfl
theorem MT (v:Value) (n:Nat) (xs:List Value) (w:World) (h:Row w v n xs) (hl:xs.length=n*5) (h1:∀y∈xs,y.oneCell' =true) (hn:n<=8388608) :
  Calls Tryz.prog 80 #[v] w fun e w' =>∃v',e= .returned v' ∧Ac w' w.heap.size 117 5 v' n xs/\Below w.heap.size w w' :=by
 obtain⟨a,q,hv,hq⟩:=h.len
 obtain⟨i0,hi0,hz0,hz1,hz2⟩:=info_parts Tryz.info117
 have HR:Hid _:=Cq (n:=n) (bytes:=40) hn (by decide)
 have RR:Hid (∀u,Below w.heap.size w u->Row u v n xs):=fun u hu=>h.below hu
 have HL:Hid (xs.length=n*5):=hl
 have H1:Hid _:=h1
 cases a with
 |none=>
  have hn0:n=0:=by
   obtain⟨a,b,o,c,h3,h4,h5,h6,h7,h8⟩:=h
   rw[hv] at h3
   injection h3 with e1 e2 e3
   have:=h8 e1.symm
   omega
  subst hn0;have hx:xs=[]:=List.length_eq_zero_iff.1 (by omega)
  subst hx hv;clear h hl h1 RR H1 HL;have hnil:∀W,(binOp .eql 33 (.slice none 0 q) (.slice none 0 0)).run Tryz.prog W= .ok (.bool true) W:=fun W=>Lib.run_eql_slice_nil_nil W _ _ Tryz.underlying33
  go_enter Tryz.func80,Tryz.ntmps80
  go_wp2;go_ret;exact⟨_,rfl,Ac.nil _ _ _ _,Below.refl _ _⟩
 |some p=>
  subst hv;clear h hl h1;have hnil:∀W,(binOp .eql 33 (.slice (some p) n q) (.slice none 0 0)).run Tryz.prog W= .ok (.bool false) W:=fun W=>Lib.run_eql_slice_some_nil W _ _ _ Tryz.underlying33
  go_enter Tryz.func80,Tryz.ntmps80
  go_wp2_with (at_builtin;refine BO (w.alloc (.cells #[] 117)) rfl _ _ 33 rfl w.heap.size 117 i0 _ 5 40 Tryz.underlying33 hi0 hz0 hz1 hz2 rfl (by decide) (.slice (some ⟨w.heap.size,0,none⟩) 0 0) 0 [] rfl (Ac.zero _ _ _ _ _) (.slice (some p) n q) n xs rfl (RR.out _ (al1 _ _)) HL.out H1.out HR.out.1 HR.out.2 (by simp) ?_)
  rintro v' w2 ⟨o1,o2,o3,o4⟩
  have B2:Below w.heap.size w w2:=Below.trans (al1 _ _) o3
  clear o2 o3 o4;go_wp2;go_ret;exact⟨_,rfl,by simpa using o1,B2⟩

theorem Mx (v:Value) (n:Nat) (xs:List Value) (w:World) (h:Row w v n xs) (hl:xs.length=n*2) (h1:∀y∈xs,y.oneCell' =true) (hn:n<=8388608) :
  Calls Tryz.prog 82 #[v] w fun e w' =>∃v',e= .returned v' ∧Ac w' w.heap.size 121 2 v' n xs/\Below w.heap.size w w' :=by
 obtain⟨a,q,hv,hq⟩:=h.len
 obtain⟨i0,hi0,hz0,hz1,hz2⟩:=info_parts Tryz.info121
 have HR:Hid _:=Cq (n:=n) (bytes:=16) hn (by decide)
 have RR:Hid (∀u,Below w.heap.size w u->Row u v n xs):=fun u hu=>h.below hu
 have HL:Hid (xs.length=n*2):=hl
 have H1:Hid _:=h1
 cases a with
 |none=>
  have hn0:n=0:=by
   obtain⟨a,b,o,c,h3,h4,h5,h6,h7,h8⟩:=h
   rw[hv] at h3
   injection h3 with e1 e2 e3
   have:=h8 e1.symm
   omega
  subst hn0;have hx:xs=[]:=List.length_eq_zero_iff.1 (by omega)
  subst hx hv;clear h hl h1 RR H1 HL;have hnil:∀W,(binOp .eql 35 (.slice none 0 q) (.slice none 0 0)).run Tryz.prog W= .ok (.bool true) W:=fun W=>Lib.run_eql_slice_nil_nil W _ _ Tryz.underlying35
  go_enter Tryz.func82,Tryz.ntmps82
  go_wp2;go_ret;exact⟨_,rfl,Ac.nil _ _ _ _,Below.refl _ _⟩
 |some p=>
  subst hv;clear h hl h1;have hnil:∀W,(binOp .eql 35 (.slice (some p) n q) (.slice none 0 0)).run Tryz.prog W= .ok (.bool false) W:=fun W=>Lib.run_eql_slice_some_nil W _ _ _ Tryz.underlying35
  go_enter Tryz.func82,Tryz.ntmps82
  go_wp2_with (at_builtin;refine BO (w.alloc (.cells #[] 121)) rfl _ _ 35 rfl w.heap.size 121 i0 _ 2 16 Tryz.underlying35 hi0 hz0 hz1 hz2 rfl (by decide) (.slice (some ⟨w.heap.size,0,none⟩) 0 0) 0 [] rfl (Ac.zero _ _ _ _ _) (.slice (some p) n q) n xs rfl (RR.out _ (al1 _ _)) HL.out H1.out HR.out.1 HR.out.2 (by simp) ?_)
  rintro v' w2 ⟨o1,o2,o3,o4⟩
  have B2:Below w.heap.size w w2:=Below.trans (al1 _ _) o3
  clear o2 o3 o4;go_wp2;go_ret;exact⟨_,rfl,by simpa using o1,B2⟩
end
section
open Go.RowKit

theorem Bw {P:Program} (e:TypeId) (ie:TypeInfo) (z:Value) (K:Nat) (hie:P.info? e=some ie) (hz:ie.zero=some z) (hsz:ie.size=K) (hK:0<K) (hs:K<=16777216) (ks:List Value) (hl:ks.length=K):P.builtSlice e 1 [(0, .agg ks.toArray)]=some ks.toArray:=by
 unfold Program.builtSlice
 simp only[hie,hz]
 rw[if_neg (by rw[hsz];omega),hsz]
 obtain⟨r,h1,h2,h3⟩:=Great.fill_dense hK [.agg ks.toArray] 0 ((Array.range (1*K)).map (z.cells[· % z.cells.size]!)) (by intro v hv;rw[List.mem_singleton.1 hv];show ks.toArray.size=K;simpa using hl) (by simp)
 have e1:[((0:Nat),Value.agg ks.toArray)]=(([Value.agg ks.toArray].zipIdx 0).map fun x=>(x.2,x.1)):=rfl
 rw[e1,h1]
 congr 1
 apply Array.ext_getElem?
 intro k;rw[h3 k]
 by_cases hk:k<K
 ·rw[if_pos (by simp;exact hk),Nat.div_eq_of_lt hk,Nat.mod_eq_of_lt hk]
  rfl
 ·rw[if_neg (by simp;omega)]
  rw[Array.getElem?_eq_none (by simp;omega),Array.getElem?_eq_none (by simp;omega)]
end
section
open Go.RowKit

theorem NW (b bt:Int) (v:Value) (l:EL) (w:World) (h:Row w v l.length (Af l)) (hs:l.length<=2097152) :
  Calls Tryz.prog 97 #[lgV b bt v] w fun e w' =>∃v',e= .returned (lgV b bt v')/\Ac w' w.heap.size 119 6 v' l.length (Af l)/\Below w.heap.size w w' :=by
 obtain⟨i0,hi0,hz0,hz1,hz2⟩:=info_parts Tryz.info119
 obtain⟨a,bb,off,cap,rfl,hcap,hmax, -⟩:=h.ents
 have N1:Hid (Ai 64 ((w.alloc (.cells #[.int .i64 b, .int .i64 bt, .slice a l.length cap] 64)).alloc (.cells #[.int .i64 0, .int .i64 0, .slice none 0 0] 64)) w.heap.size #[.int .i64 b, .int .i64 bt, .slice a l.length cap]):=(Ai.start _ _ _).step (Ae _ _)
 have N2:Hid (Ai 64 ((w.alloc (.cells #[.int .i64 b, .int .i64 bt, .slice a l.length cap] 64)).alloc (.cells #[.int .i64 0, .int .i64 0, .slice none 0 0] 64)) (w.heap.size+1) #[.int .i64 0, .int .i64 0, .slice none 0 0]):=by
  have:=Ai.start 64 (w.alloc (.cells #[.int .i64 b, .int .i64 bt, .slice a l.length cap] 64)) #[.int .i64 0, .int .i64 0, .slice none 0 0]
  rw[World.size_alloc] at this
  exact this
 have B2:Hid (Below w.heap.size w ((w.alloc (.cells #[.int .i64 b, .int .i64 bt, .slice a l.length cap] 64)).alloc (.cells #[.int .i64 0, .int .i64 0, .slice none 0 0] 64))):=Below.and (Ae _ _) (Ae _ _)
 have zz:((w.alloc (.cells #[.int .i64 b, .int .i64 bt, .slice a l.length cap] 64)).alloc (.cells #[.int .i64 0, .int .i64 0, .slice none 0 0] 64)).heap.size=w.heap.size+2:=by simp
 have ZZ:Hid _:=zz
 have R1:Hid _:=h
 have Z1:Hid _:=Js (n:=l.length) (bytes:=48) (by omega) (by decide)
 clear h hcap hmax zz;go_enter Tryz.func97,Tryz.ntmps97
 go_wp2_with fail;generalize ((w.alloc (.cells #[.int .i64 b, .int .i64 bt, .slice a l.length cap] 64)).alloc (.cells #[.int .i64 0, .int .i64 0, .slice none 0 0] 64))=W at *
 have KEEP:Hid (∀u,Below W.heap.size W u->(fun u=>u.cell? ⟨w.heap.size,0,none⟩=some (.int .i64 b)/\u.cell? ⟨w.heap.size,1,none⟩=some (.int .i64 bt)/\u.cell? ⟨w.heap.size,2,none⟩=some (.slice a l.length cap)) u):=fun u hu=>by
  have k:=(N1.out.step hu).cells
  exact⟨k 0,k 1,k 2⟩
 have SL:Hid (Below W.heap.size W W.drew):=(Below.refl _ _).drew
 refine wp_region_held_drew (S:=(fun u=>u.cell? ⟨w.heap.size,0,none⟩=some (.int .i64 b)/\u.cell? ⟨w.heap.size,1,none⟩=some (.int .i64 bt)/\u.cell? ⟨w.heap.size,2,none⟩=some (.slice a l.length cap))) (by kernel_rfl) (KEEP.out _ SL.out) (fun hH=> ?_)
 refine wpAnyH_take (i:=0) (oi:=⟨_,_,_,_,_,_⟩) (v:= ?_) rfl (by kernel_rfl) (by kernel_rfl) (by kernel_rfl) (fun _ _ _ h=>h) (Or.inl ⟨by rfl, ?_⟩) (by assumption) ?_
 rotate_left
 ·((intro w hSw;(try dsimp only at hSw);go_simp);(try with_reducible rfl))
 try simp only[Act.put,List.setIfInBounds_toArray,List.set_cons_zero,List.set_cons_succ]
 refine wpAnyH_take (i:=1) (oi:=⟨_,_,_,_,_,_⟩) (v:= ?_) rfl (by kernel_rfl) (by kernel_rfl) (by kernel_rfl) (fun _ _ _ h=>h) (Or.inl ⟨by rfl, ?_⟩) (by assumption) ?_
 rotate_left
 ·((intro w hSw;(try dsimp only at hSw);go_simp);(try with_reducible rfl))
 try simp only[Act.put,List.setIfInBounds_toArray,List.set_cons_zero,List.set_cons_succ]
 refine wpAnyH_take (i:=2) (oi:=⟨_,_,_,_,_,_⟩) (v:= ?_) rfl (by kernel_rfl) (by kernel_rfl) (by kernel_rfl) (fun _ _ _ h=>h) (Or.inl ⟨by rfl, ?_⟩) (by assumption) ?_
 rotate_left
 ·((intro w hSw;(try dsimp only at hSw);go_simp);(try with_reducible rfl))
 try simp only[Act.put,List.setIfInBounds_toArray,List.set_cons_zero,List.set_cons_succ]
 refine wpAnyH_take (i:=3) (oi:=⟨_,_,_,_,_,_⟩) (v:= ?_) rfl (by kernel_rfl) (by kernel_rfl) (by kernel_rfl) (fun _ _ _ h=>h) (Or.inl ⟨by rfl, ?_⟩) (by assumption) ?_
 rotate_left
 ·((intro w hSw;(try dsimp only at hSw);go_simp);(try with_reducible rfl))
 try simp only[Act.put,List.setIfInBounds_toArray,List.set_cons_zero,List.set_cons_succ]
 refine wpAnyH_take (i:=5) (oi:=⟨_,_,_,_,_,_⟩) (v:= ?_) rfl (by kernel_rfl) (by kernel_rfl) (by kernel_rfl) (fun _ _ _ h=>h) (Or.inl ⟨by rfl, ?_⟩) (by assumption) ?_
 rotate_left
 ·((intro w hSw;(try dsimp only at hSw);go_simp);(try with_reducible rfl))
 try simp only[Act.put,List.setIfInBounds_toArray,List.set_cons_zero,List.set_cons_succ]
 refine wpAnyH_take (i:=6) (oi:=⟨_,_,_,_,_,_⟩) (v:= ?_) rfl (by kernel_rfl) (by kernel_rfl) (by kernel_rfl) (fun _ _ _ h=>h) (Or.inl ⟨by rfl, ?_⟩) (by assumption) ?_
 rotate_left
 ·((intro w hSw;(try dsimp only at hSw);go_simp);(try with_reducible rfl))
 try simp only[Act.put,List.setIfInBounds_toArray,List.set_cons_zero,List.set_cons_succ]
 refine wpAnyH_ready (rs:=[4]) (by kernel_rfl) (by simp) ?_
 refine AllReadyH.cons (o:=⟨_,_,_,_,_,_⟩) rfl (fun K hK=> ?_) AllReadyH.nil
 go_simp
 have SL2:Hid (Below W.heap.size W ((W.alloc (.cells #[] 119)).drew)):=(Ae _ _).drew
 refine hK.out _ _ (KEEP.out _ SL2.out) (fun hH2=> ?_)
 clear hK K hH;have hH:=hH2
 clear hH2;try simp only[Act.put,List.setIfInBounds_toArray,List.set_cons_zero,List.set_cons_succ]
 generalize hW2:(W.alloc (.cells #[] 119)).drew=W2 at *
 clear hW2;refine wpAnyH_ready (rs:=[7]) (by kernel_rfl) (by simp) ?_
 refine AllReadyH.cons (o:=⟨_,_,_,_,_,_⟩) rfl (fun K hK=> ?_) AllReadyH.nil
 refine Bz W2 rfl _ _ 62 rfl w.heap.size 119 i0 _ 6 48 Tryz.underlying62 hi0 hz0 hz1 hz2 rfl (by decide) (.slice (some ⟨W.heap.size,0,none⟩) 0 0) 0 [] rfl (Ac.zero _ _ _ _ _) (.slice a l.length cap) l.length (Af l) rfl ((Row.below R1.out B2.out).below SL2.out) (AX l) (FL _) Z1.out.1 Z1.out.2 (Nat.le_trans B2.out.size SL2.out.size) ?_
 intro v' x AP;have AE:=AP.1
 rw[Nat.zero_add,List.nil_append] at AE
 have bx:Below W2.heap.size W2 x:=AP.2.1.below (fun g _ h=>absurd h (A8 _ _)) (Nat.le_refl _)
 obtain⟨a3,q3,hv3⟩:=AE.slice
 subst hv3;have SL3:Hid (Below W.heap.size W x):=Below.and SL2.out bx
 have AE3:Hid (Ac x w.heap.size 119 6 (.slice a3 l.length q3) l.length (Af l)):=AE
 clear AP AE bx;refine hK.out _ _ (KEEP.out _ SL3.out) (fun hH2=> ?_)
 clear hK K hH;have hH:=hH2
 clear hH2;try simp only[Act.put,List.setIfInBounds_toArray,List.set_cons_zero,List.set_cons_succ]
 refine wpAnyH_take (i:=8) (oi:=⟨_,_,_,_,_,_⟩) (v:= ?_) rfl (by kernel_rfl) (by kernel_rfl) (by kernel_rfl) (fun _ _ _ h=>h) (Or.inl ⟨by rfl, ?_⟩) (by assumption) ?_
 rotate_left
 ·((intro w hSw;(try dsimp only at hSw);go_simp);(try with_reducible rfl))
 try simp only[Act.put,List.setIfInBounds_toArray,List.set_cons_zero,List.set_cons_succ]
 have M2:=N2.out.step SL3.out
 have m0:x.cell? ⟨w.heap.size+1,0,none⟩=some (.int .i64 0):=Aa M2
 have m1:x.cell? ⟨w.heap.size+1,1,none⟩=some (.int .i64 0):=Aa M2
 have m2:x.cell? ⟨w.heap.size+1,2,none⟩=some (.slice none 0 0):=Aa M2
 have f0:∀j,x.frozen? ⟨w.heap.size+1,j,none⟩=false:=fun j=>Ab M2
 have X:=NF (.int .i64 b) (.int .i64 bt) (.slice a3 l.length q3) M2
 have ch:=Gq x (w.heap.size+1) (.int .i64 b) (.int .i64 bt) (.slice a3 l.length q3)
 have AE4:=Ac.chg AE3.out ch (fun g hg=>NY AE3.out M2 (by decide) hg)
 have K1:=(N1.out.step SL3.out)
 have K2:=Al K1 ch (by omega)
 have BB:=(Below.and B2.out SL3.out)
 have BF:=BB.trans (ch.below (fun g _ hg=>by omega) BB.size)
 have FIN:Hid _:=And.intro X (And.intro AE4 BF)
 have KS:Hid _:=K2
 clear M2 X ch AE4 K1 K2 BB BF;refine wpAnyH_ready (rs:=[9]) (by kernel_rfl) (by simp) ?_
 refine AllReadyH.cons (o:=⟨_,_,_,_,_,_⟩) rfl (fun K hK=> ?_) AllReadyH.nil
 go_simp
 refine hK.out _ _ (⟨Aa KS.out,Aa KS.out,Aa KS.out⟩) (fun hH2=> ?_)
 clear hK K hH;have hH:=hH2
 clear hH2;try simp only[Act.put,List.setIfInBounds_toArray,List.set_cons_zero,List.set_cons_succ]
 refine wpAnyH_done (by kernel_rfl) ?_ _
 clear hH m0 m1 m2 f0;go_wp2_with fail;simp[bodyPost,results,Tryz.results97,go_sem,Aa FIN.out.1]
 exact FIN.out.2
end
section
open Go.RowKit

def lcL (b:Int) (l:EL) (i:Int):EL:=match Cf b l i with|some n=>l.drop (n+1)|none=>l
def lcB (b:Int) (l:EL) (i:Int):Int:=match Cf b l i with|some _=>i|none=>b
def lcT (b bt:Int) (l:EL) (i:Int):Int:=match Cf b l i with|some n=>eT l n|none=>bt
theorem Je (b bt:Int) (v:Value) (l:EL) (w:World) (h:Row w v l.length (Af l)) (hs:l.length<=2097152) :
  Calls Tryz.prog 108 #[lgV b bt v] w fun e w' =>∃v',e= .returned (lgV b bt v')/\w'.ownsRow w.heap.size 119 6 v' l.length (Af l)/\Below w.heap.size w w' :=by
 obtain⟨a,bb,off,cap,rfl,hcap,hmax, -⟩:=h.ents
 have W0:∃W,W=(((w.alloc (.cells #[.int .i64 b, .int .i64 bt, .slice a l.length cap] 64)).alloc (.cells #[.int .i64 0, .int .i64 0, .slice none 0 0] 64)).alloc (.cells #[.slice a l.length cap] 62)):=⟨_,rfl⟩
 have N1:Hid (Ai 64 (((w.alloc (.cells #[.int .i64 b, .int .i64 bt, .slice a l.length cap] 64)).alloc (.cells #[.int .i64 0, .int .i64 0, .slice none 0 0] 64)).alloc (.cells #[.slice a l.length cap] 62)) w.heap.size #[.int .i64 b, .int .i64 bt, .slice a l.length cap]):=((Ai.start _ _ _).step (Ae _ _)).step (Ae _ _)
 have N2:Hid (Ai 64 (((w.alloc (.cells #[.int .i64 b, .int .i64 bt, .slice a l.length cap] 64)).alloc (.cells #[.int .i64 0, .int .i64 0, .slice none 0 0] 64)).alloc (.cells #[.slice a l.length cap] 62)) (w.heap.size+1) #[.int .i64 0, .int .i64 0, .slice none 0 0]):=by
  have:=(Ai.start 64 (w.alloc (.cells #[.int .i64 b, .int .i64 bt, .slice a l.length cap] 64)) #[.int .i64 0, .int .i64 0, .slice none 0 0]).step (Ae _ (.cells #[.slice a l.length cap] 62))
  rw[World.size_alloc] at this
  exact this
 have N3:Hid (Ai 62 (((w.alloc (.cells #[.int .i64 b, .int .i64 bt, .slice a l.length cap] 64)).alloc (.cells #[.int .i64 0, .int .i64 0, .slice none 0 0] 64)).alloc (.cells #[.slice a l.length cap] 62)) (w.heap.size+1+1) #[.slice a l.length cap]):=by
  have:=Ai.start 62 ((w.alloc (.cells #[.int .i64 b, .int .i64 bt, .slice a l.length cap] 64)).alloc (.cells #[.int .i64 0, .int .i64 0, .slice none 0 0] 64)) #[.slice a l.length cap]
  rw[World.size_alloc,World.size_alloc] at this
  exact this
 have B2:Hid (Below w.heap.size w (((w.alloc (.cells #[.int .i64 b, .int .i64 bt, .slice a l.length cap] 64)).alloc (.cells #[.int .i64 0, .int .i64 0, .slice none 0 0] 64)).alloc (.cells #[.slice a l.length cap] 62))):=Below.and (Below.and (Ae _ _) (Ae _ _)) (Ae _ _)
 have ZZ:Hid ((((w.alloc (.cells #[.int .i64 b, .int .i64 bt, .slice a l.length cap] 64)).alloc (.cells #[.int .i64 0, .int .i64 0, .slice none 0 0] 64)).alloc (.cells #[.slice a l.length cap] 62)).heap.size=w.heap.size+3):=by show _=_;simp
 have R1:Hid (Row w (.slice a l.length cap) l.length (Af l)):=h
 clear h hcap hmax W0;go_enter Tryz.func108,Tryz.ntmps108
 go_wp2_with fail;generalize (((w.alloc (.cells #[.int .i64 b, .int .i64 bt, .slice a l.length cap] 64)).alloc (.cells #[.int .i64 0, .int .i64 0, .slice none 0 0] 64)).alloc (.cells #[.slice a l.length cap] 62))=W at *
 refine(Gz _ _ _ l W N3.out (R1.out.below B2.out) hs).mono ?_
 rintro e w3 ⟨v3,rfl,o3,b3⟩
 obtain⟨a5,q5,hv3⟩:=BQ o3
 subst hv3;have zz:=ZZ.out
 generalize hm5:l.length=m5 at *
 have s1:=N2.out.step b3
 have s2:=N1.out.step b3
 have B3:=Below.and B2.out b3
 have u2:=OA (.slice a5 m5 q5) s2
 have g3:=HU w3 w.heap.size (.slice a5 m5 q5)
 have u1:=Al s1 g3 (by omega)
 have o4:=Cw o3 g3 (fun g hg e=>by have:=(o3.lt g hg).1;omega)
 have B4:=B3.trans (g3.below (fun g _ hg=>by omega) B3.size)
 have x1:=NF (.int .i64 b) (.int .i64 bt) (.slice a5 m5 q5) u1
 have g5:=Gq (w3.setCell ⟨w.heap.size,2,none⟩ (.slice a5 m5 q5)) (w.heap.size+1) (.int .i64 b) (.int .i64 bt) (.slice a5 m5 q5)
 have o5:=Cw o4 g5 (fun g hg e=>by have:=(o4.lt g hg).1;omega)
 have B5:=B4.trans (g5.below (fun g _ hg=>by omega) B4.size)
 have f2:∀j,w3.frozen? ⟨w.heap.size,j,none⟩=false:=fun j=>Ab s2
 have f3:∀j,(w3.setCell ⟨w.heap.size,2,none⟩ (.slice a5 m5 q5)).frozen? ⟨w.heap.size+1,j,none⟩=false:=fun j=>Ab u1
 have c2:∀j,w3.cell? ⟨w.heap.size,j,none⟩=(#[.int .i64 b, .int .i64 bt, .slice a m5 cap]:Array Value)[j]? :=fun j=>Aa s2
 have c3:∀j,(w3.setCell ⟨w.heap.size,2,none⟩ (.slice a5 m5 q5)).cell? ⟨w.heap.size,j,none⟩=(#[.int .i64 b, .int .i64 bt, .slice a5 m5 q5]:Array Value)[j]? :=fun j=>Aa u2
 have c4:∀j,(w3.setCell ⟨w.heap.size,2,none⟩ (.slice a5 m5 q5)).cell? ⟨w.heap.size+1,j,none⟩=(#[.int .i64 0, .int .i64 0, .slice none 0 0]:Array Value)[j]? :=fun j=>Aa u1
 have X1:Hid _:=x1
 have K:Hid _:=And.intro (A6 (base' :=w.heap.size) o5 (by omega)) B5
 have HM:Hid _:=hm5
 clear s1 s2 B3 u2 g3 u1 o4 B4 x1 g5 o5 B5 o3 b3 zz hm5;go_wp2_with fail;simp[bodyPost,results,Tryz.results108,go_sem,Aa X1.out]
 rw[HM.out]
 exact K.out
end
end Go.Proofs.YtkcaelfkcepdkaaGreat
