/-
  Within a region by Par: an append, and an append to what has no room (it writes into no block that was there).
  The model's copies of machines own their memory.
-/
import Derived.Test.YtkcaelfkcepdkaaGreatOfNote31
import Derived.Test.YtkcaelfkcepdkaaGreatOfNote8
import Derived.Test.YtkcaelfkcepdkaaGreatOfNote21
import Derived.Test.YtkcaelfkcepdkaaGreatOfNote14
namespace Go.Proofs.YtkcaelfkcepdkaaGreat
set_option maxRecDepth 100000
set_option maxHeartbeats 8000000
section
open Go.RowKit

theorem AV.app {P:Program} {o:Oper} {ρ :Operand->Value} {F:Value->World->Prop} (W:World) (s x:Operand) (t:TypeId)
  (ho:o.op= .call { callee:= .builtin .append,args:= #[s,x],argTypes:= #[t,t] })
  (base:Nat) (e:TypeId) (i:TypeInfo) (z:Value) (size bytes:Nat) (ht:P.underlying t=some (.slice e)) (hi:P.info? e=some i) (hz:i.zero=some z)
  (hsize:i.size=size) (hby:i.bytes=bytes) (hzs:z.cells.size=size) (hsz:0<size)
  (v:Value) (n:Nat) (xs:List Value) (hs: ρ s=v) (hown:Ac W base e size v n xs)
  (u:Value) (m:Nat) (news:List Value) (hx: ρ x=u) (hr:Row W u m news) (hl:news.length=m*size) (h1:∀y∈news,y.oneCell' =true)
  (h63:n+m<=maxLen) (hbytes:(n+m)*bytes<=140737488355328) (hbase:base<=W.heap.size)
  (h:∀v' w',EB W base e size v (n+m) (xs++news) v' w' ->F v' w'):AV P o ρ W F:=by
 obtain⟨v',w',hrun,h2⟩:=GT (P:=P) W t o.type base e i z size bytes ht hi hz hsize hby hzs hsz v n xs hown u m news hr hl h1 h63 hbytes hbase
 refine AV.value (v:=v') (w' :=w') ?_ (h v' w' h2)
 simp[execOp,ho,resolve,invoke,builtin,hs,hx,hrun]

theorem EB.fresh {W w' :World} {base e size b n:Nat} {xs:List Value} {v' :Value} (h:EB W base e size (.slice (some ⟨b,0,none⟩) 0 0) n xs v' w'):Below W.heap.size W w' ∧Ac w' base e size v' n xs/\∀g,wrB v' g->W.heap.size<=g/\g<w'.heap.size:=by
 obtain⟨h1,h2,_,h4⟩:=h
 refine⟨h2.below (fun g _ hg=>(A8 _ _ hg).elim) (Nat.le_refl _),h1,fun g hg=>⟨?_,(h1.lt g hg).2⟩⟩
 rcases h4 g hg with k|k
 ·exact(A8 _ _ k).elim
 ·exact k
end
section
open Go.RowKit

theorem Oi (args:Array Value) (w:World):(callFunc 105 args).run Tryz.prog w= .ok (.enter 105 args) w:=by go_simp

theorem Gp (n:Nat) (m:Bv) (T:Tr) (l:DL) (w:World) (h:DJ n w m T l) (hs:Az n T<=1099511627776) (hl:l.length<=1048576) :
  Calls Tryz.prog 75 #[m.val] w fun e w' =>∃m' :Bv,e= .returned m'.val/\AQ n w' (fun g=>w.heap.size<=g) m' T l/\Below w.heap.size w w' :=by
 obtain⟨i0,hi0,hz0,hz1,hz2⟩:=info_parts Tryz.info141
 have HR:=Ag (Cq (n:=l.length) (bytes:=32) (by omega) (by decide))
 have C1:Hid (∀u,Below w.heap.size w u->Calls Tryz.prog 105 #[m.x.val] u fun e w' =>∃y:TV,e= .returned y.val/\Aw n w' (fun g=>u.heap.size<=g) y T/\Below u.heap.size u w'):=fun u hu=>Lq n m.x T u (h.1.below hu) hs
 have RR:Hid (∀u,Below w.heap.size w u->Row u m.v l.length (Au l)):=fun u hu=>h.2.below hu
 obtain⟨xv,hxv⟩:=h.2.len
 clear h hs hl hxv xv;obtain⟨⟨lf,p,c,k,b⟩,v⟩:=m
 simp only at RR C1
 have N1:=Ag ((Ai.start 71 w #[.bool lf,p,c,k,b,v]).step (Ae _ (.cells #[.bool false, .slice none 0 0, .slice none 0 0, .slice none 0 0, .slice none 0 0, .slice none 0 0] 71)))
 have N2:Hid (Ai 71 ((w.alloc (.cells #[.bool lf,p,c,k,b,v] 71)).alloc (.cells #[.bool false, .slice none 0 0, .slice none 0 0, .slice none 0 0, .slice none 0 0, .slice none 0 0] 71)) (w.heap.size+1) #[.bool false, .slice none 0 0, .slice none 0 0, .slice none 0 0, .slice none 0 0, .slice none 0 0]):=by
  have:=Ai.start 71 (w.alloc (.cells #[.bool lf,p,c,k,b,v] 71)) #[.bool false, .slice none 0 0, .slice none 0 0, .slice none 0 0, .slice none 0 0, .slice none 0 0]
  rw[World.size_alloc] at this
  exact this
 have B2:Hid (Below w.heap.size w ((w.alloc (.cells #[.bool lf,p,c,k,b,v] 71)).alloc (.cells #[.bool false, .slice none 0 0, .slice none 0 0, .slice none 0 0, .slice none 0 0, .slice none 0 0] 71))):=Below.and (Ae _ _) (Ae _ _)
 have ZZ:Hid (((w.alloc (.cells #[.bool lf,p,c,k,b,v] 71)).alloc (.cells #[.bool false, .slice none 0 0, .slice none 0 0, .slice none 0 0, .slice none 0 0, .slice none 0 0] 71)).heap.size=w.heap.size+2):=by show _=_;simp
 show Calls Tryz.prog 75 #[.agg #[.bool lf,p,c,k,b,v]] w _
 go_enter Tryz.func75,Tryz.ntmps75
 go_wp2_with fail;generalize ((w.alloc (.cells #[.bool lf,p,c,k,b,v] 71)).alloc (.cells #[.bool false, .slice none 0 0, .slice none 0 0, .slice none 0 0, .slice none 0 0, .slice none 0 0] 71))=W at *
 have KEEP:Hid (∀u,Below W.heap.size W u->(fun u=>(∀j,u.cell? ⟨w.heap.size,j,none⟩=(#[.bool lf,p,c,k,b,v]:Array Value)[j]?)) u):=fun u hu=>(N1.out.step hu).cells
 have SL:Hid (Below W.heap.size W W.drew):=(Below.refl _ _).drew
 refine wp_region_held_drew (S:=(fun u=>(∀j,u.cell? ⟨w.heap.size,j,none⟩=(#[.bool lf,p,c,k,b,v]:Array Value)[j]?))) (by kernel_rfl) (KEEP.out _ SL.out) (fun hH=> ?_)
 refine wpAnyH_take (i:=0) (oi:=⟨_,_,_,_,_,_⟩) (v:= ?_) rfl (by kernel_rfl) (by kernel_rfl) (by kernel_rfl) (fun _ _ _ h=>h) (Or.inl ⟨by rfl, ?_⟩) (by assumption) ?_
 rotate_left
 ·((intro w hSw;(try dsimp only at hSw);go_simp);(try with_reducible rfl))
 try simp only[Act.put,List.setIfInBounds_toArray,List.set_cons_zero,List.set_cons_succ]
 refine wpAnyH_take (i:=1) (oi:=⟨_,_,_,_,_,_⟩) (v:= ?_) rfl (by kernel_rfl) (by kernel_rfl) (by kernel_rfl) (fun _ _ _ h=>h) (Or.inl ⟨by rfl, ?_⟩) (by assumption) ?_
 rotate_left
 ·((intro w hSw;(try dsimp only at hSw);go_simp);(try with_reducible rfl))
 try simp only[Act.put,List.setIfInBounds_toArray,List.set_cons_zero,List.set_cons_succ]
 refine wpAnyH_take (i:=4) (oi:=⟨_,_,_,_,_,_⟩) (v:= ?_) rfl (by kernel_rfl) (by kernel_rfl) (by kernel_rfl) (fun _ _ _ h=>h) (Or.inl ⟨by rfl, ?_⟩) (by assumption) ?_
 rotate_left
 ·((intro w hSw;(try dsimp only at hSw);go_simp);(try with_reducible rfl))
 try simp only[Act.put,List.setIfInBounds_toArray,List.set_cons_zero,List.set_cons_succ]
 refine wpAnyH_take (i:=5) (oi:=⟨_,_,_,_,_,_⟩) (v:= ?_) rfl (by kernel_rfl) (by kernel_rfl) (by kernel_rfl) (fun _ _ _ h=>h) (Or.inl ⟨by rfl, ?_⟩) (by assumption) ?_
 rotate_left
 ·((intro w hSw;(try dsimp only at hSw);go_simp);(try with_reducible rfl))
 try simp only[Act.put,List.setIfInBounds_toArray,List.set_cons_zero,List.set_cons_succ]
 refine wpAnyH_ready (rs:=[2,3]) (by kernel_rfl) (by simp) ?_
 refine AllReadyH.cons (o:=⟨_,_,_,_,_,_⟩) rfl (fun K hK=> ?_) (AllReadyH.cons (o:=⟨_,_,_,_,_,_⟩) rfl (fun K hK=> ?_) AllReadyH.nil)
 ·refine(if_pos (show Region.wanted _ _=true by kernel_rfl)).mpr ?_
  refine Bm 105 [.tmp 4] #[69] rfl Oi _ rfl (C1.out _ (Below.and B2.out SL.out)) ?_
  rintro e u1 ⟨y,rfl,t1,b1⟩
  have T1:=Ag (t1.mono (G:=fun g=>w.heap.size+2<=g) (fun g hg=>by have h1:=SL.out.size;have h2:=ZZ.out;omega))
  obtain⟨l1,x1,x2,x3,x4,hy⟩:=t1.sl
  subst hy;replace SL:=Ag (Below.and SL.out b1)
  clear t1 b1;refine⟨_,rfl, ?_⟩
  refine hK.out _ _ (KEEP.out _ SL.out) (fun hH2=> ?_)
  clear hK K hH;have hH:=hH2
  clear hH2;try simp only[Act.put,List.setIfInBounds_toArray,List.set_cons_zero,List.set_cons_succ]
  refine wpAnyH_ready (rs:=[3]) (by kernel_rfl) (by simp) ?_
  refine AllReadyH.cons (o:=⟨_,_,_,_,_,_⟩) rfl (fun K hK=> ?_) AllReadyH.nil
  go_simp
  have SN:Hid (Below W.heap.size W (u1.alloc (.cells #[] 141))):=Below.and SL.out (Ae _ _)
  replace T1:=Ag (T1.out.below (Ae _ (.cells #[] 141)))
  refine hK.out _ _ (KEEP.out _ SN.out) (fun hH2=> ?_)
  clear hK K hH;have hH:=hH2
  clear hH2;try simp only[Act.put,List.setIfInBounds_toArray,List.set_cons_zero,List.set_cons_succ]
  replace SL:=SN
  clear SN;generalize hW2:(u1.alloc (.cells #[] 141))=W2 at *
  clear hW2;have hg0:=Eq.refl u1.heap.size
  generalize hg1:u1.heap.size=g0
  clear hg0 hg1;refine wpAnyH_ready (rs:=[6]) (by kernel_rfl) (by simp) ?_
  refine AllReadyH.cons (o:=⟨_,_,_,_,_,_⟩) rfl (fun K hK=> ?_) AllReadyH.nil
  refine Bz W2 rfl _ _ 34 rfl (w.heap.size+2) 141 i0 _ 4 32 Tryz.underlying34 hi0 hz0 hz1 hz2 rfl (by decide) _ 0 [] rfl (Ac.zero _ _ _ _ _) v l.length (Au l) rfl (RR.out _ (Below.and B2.out SL.out)) (Cm l) (EC _) HR.out.1 HR.out.2 (by have h1:=SL.out.size;have h2:=ZZ.out;omega) ?_
  intro v5 u2 AP;have AE:=AP.1
  rw[Nat.zero_add,List.nil_append] at AE
  have b5:Below W2.heap.size W2 u2:=AP.2.1.below (fun g _ h=>absurd h (A8 _ _)) (Nat.le_refl _)
  obtain⟨x5,hx⟩:=AE.sl
  subst hx;have O5:=Ag AE
  replace SL:=Ag (Below.and SL.out b5)
  replace T1:=Ag (T1.out.below b5)
  clear AP AE b5;refine hK.out _ _ (KEEP.out _ SL.out) (fun hH2=> ?_)
  clear hK K hH;have hH:=hH2
  clear hH2;try simp only[Act.put,List.setIfInBounds_toArray,List.set_cons_zero,List.set_cons_succ]
  refine wpAnyH_take (i:=7) (oi:=⟨_,_,_,_,_,_⟩) (v:= ?_) rfl (by kernel_rfl) (by kernel_rfl) (by kernel_rfl) (fun _ _ _ h=>h) (Or.inl ⟨by rfl, ?_⟩) (by assumption) ?_
  rotate_left
  ·((intro w hSw;(try dsimp only at hSw);go_simp);(try with_reducible rfl))
  try simp only[Act.put,List.setIfInBounds_toArray,List.set_cons_zero,List.set_cons_succ]
  have M2:=N2.out.step SL.out
  have m0:∀j,u2.cell? ⟨w.heap.size+1,j,none⟩=(#[.bool false, .slice none 0 0, .slice none 0 0, .slice none 0 0, .slice none 0 0, .slice none 0 0]:Array Value)[j]? :=M2.cells
  have f0:∀j,u2.frozen? ⟨w.heap.size+1,j,none⟩=false:=fun j=>Ab M2
  have X:=Nh (.bool l1) (.slice x1.1 x1.2.1 x1.2.2) (.slice x2.1 x2.2.1 x2.2.2) (.slice x3.1 x3.2.1 x3.2.2) (.slice x4.1 x4.2.1 x4.2.2) (.slice x5.1 x5.2.1 x5.2.2) M2
  have MD:AQ n u2 (fun g=>w.heap.size+2<=g) ⟨⟨l1, .slice x1.1 x1.2.1 x1.2.2, .slice x2.1 x2.2.1 x2.2.2, .slice x3.1 x3.2.1 x3.2.2, .slice x4.1 x4.2.1 x4.2.2⟩, .slice x5.1 x5.2.1 x5.2.2⟩ T l:=⟨T1.out,O5.out.mono (Nat.zero_le _),fun g hg=>(O5.out.lt g hg).1⟩
  have KS:=Ag (Al (N1.out.step SL.out) X.2 (by omega))
  have BB:=Below.and B2.out SL.out
  have FIN:=Ag (And.intro X.1 (And.intro ((MD.chg X.2 (fun g hg=>by omega)).mono (G:=fun g=>w.heap.size<=g) (fun g hg=>by omega)) (BB.trans (X.2.below (fun g _ hg=>by omega) BB.size))))
  clear M2 X MD BB;refine wpAnyH_ready (rs:=[8]) (by kernel_rfl) (by simp) ?_
  refine AllReadyH.cons (o:=⟨_,_,_,_,_,_⟩) rfl (fun K hK=> ?_) AllReadyH.nil
  go_simp
  refine hK.out _ _ (fun j=>Aa KS.out) (fun hH2=> ?_)
  clear hK K hH;have hH:=hH2
  clear hH2;try simp only[Act.put,List.setIfInBounds_toArray,List.set_cons_zero,List.set_cons_succ]
  refine wpAnyH_done (by kernel_rfl) ?_ _
  clear hH m0 f0;go_wp2_with fail;simp[bodyPost,results,Tryz.results75,go_sem,Aa FIN.out.1]
  exact⟨⟨⟨l1, .slice x1.1 x1.2.1 x1.2.2, .slice x2.1 x2.2.1 x2.2.2, .slice x3.1 x3.2.1 x3.2.2, .slice x4.1 x4.2.1 x4.2.2⟩, .slice x5.1 x5.2.1 x5.2.2⟩,by simp,FIN.out.2⟩
 ·go_simp
  have SN:Hid (Below W.heap.size W (W.alloc (.cells #[] 141)).drew):=(Ae _ _).drew
  refine hK.out _ _ (KEEP.out _ SN.out) (fun hH2=> ?_)
  clear hK K hH;have hH:=hH2
  clear hH2;try simp only[Act.put,List.setIfInBounds_toArray,List.set_cons_zero,List.set_cons_succ]
  replace SL:=SN
  clear SN;generalize hW2:(W.alloc (.cells #[] 141)).drew=W2 at *
  clear hW2;have hg0:=Eq.refl W.heap.size
  generalize hg1:W.heap.size=g0
  clear hg0 hg1;refine wpAnyH_ready (rs:=[2]) (by kernel_rfl) (by simp) ?_
  refine AllReadyH.cons (o:=⟨_,_,_,_,_,_⟩) rfl (fun K hK=> ?_) AllReadyH.nil
  refine(if_pos (show Region.wanted _ _=true by kernel_rfl)).mpr ?_
  refine Bm 105 [.tmp 4] #[69] rfl Oi _ rfl (C1.out _ (Below.and B2.out SL.out)) ?_
  rintro e u1 ⟨y,rfl,t1,b1⟩
  have T1:=Ag (t1.mono (G:=fun g=>w.heap.size+2<=g) (fun g hg=>by have h1:=SL.out.size;have h2:=ZZ.out;omega))
  obtain⟨l1,x1,x2,x3,x4,hy⟩:=t1.sl
  subst hy;replace SL:=Ag (Below.and SL.out b1)
  clear t1 b1;refine⟨_,rfl, ?_⟩
  refine hK.out _ _ (KEEP.out _ SL.out) (fun hH2=> ?_)
  clear hK K hH;have hH:=hH2
  clear hH2;try simp only[Act.put,List.setIfInBounds_toArray,List.set_cons_zero,List.set_cons_succ]
  refine wpAnyH_ready (rs:=[6]) (by kernel_rfl) (by simp) ?_
  refine AllReadyH.cons (o:=⟨_,_,_,_,_,_⟩) rfl (fun K hK=> ?_) AllReadyH.nil
  refine Bz u1 rfl _ _ 34 rfl (w.heap.size+2) 141 i0 _ 4 32 Tryz.underlying34 hi0 hz0 hz1 hz2 rfl (by decide) _ 0 [] rfl (Ac.zero _ _ _ _ _) v l.length (Au l) rfl (RR.out _ (Below.and B2.out SL.out)) (Cm l) (EC _) HR.out.1 HR.out.2 (by have h1:=SL.out.size;have h2:=ZZ.out;omega) ?_
  intro v5 u2 AP;have AE:=AP.1
  rw[Nat.zero_add,List.nil_append] at AE
  have b5:Below u1.heap.size u1 u2:=AP.2.1.below (fun g _ h=>absurd h (A8 _ _)) (Nat.le_refl _)
  obtain⟨x5,hx⟩:=AE.sl
  subst hx;have O5:=Ag AE
  replace SL:=Ag (Below.and SL.out b5)
  replace T1:=Ag (T1.out.below b5)
  clear AP AE b5;refine hK.out _ _ (KEEP.out _ SL.out) (fun hH2=> ?_)
  clear hK K hH;have hH:=hH2
  clear hH2;try simp only[Act.put,List.setIfInBounds_toArray,List.set_cons_zero,List.set_cons_succ]
  refine wpAnyH_take (i:=7) (oi:=⟨_,_,_,_,_,_⟩) (v:= ?_) rfl (by kernel_rfl) (by kernel_rfl) (by kernel_rfl) (fun _ _ _ h=>h) (Or.inl ⟨by rfl, ?_⟩) (by assumption) ?_
  rotate_left
  ·((intro w hSw;(try dsimp only at hSw);go_simp);(try with_reducible rfl))
  try simp only[Act.put,List.setIfInBounds_toArray,List.set_cons_zero,List.set_cons_succ]
  have M2:=N2.out.step SL.out
  have m0:∀j,u2.cell? ⟨w.heap.size+1,j,none⟩=(#[.bool false, .slice none 0 0, .slice none 0 0, .slice none 0 0, .slice none 0 0, .slice none 0 0]:Array Value)[j]? :=M2.cells
  have f0:∀j,u2.frozen? ⟨w.heap.size+1,j,none⟩=false:=fun j=>Ab M2
  have X:=Nh (.bool l1) (.slice x1.1 x1.2.1 x1.2.2) (.slice x2.1 x2.2.1 x2.2.2) (.slice x3.1 x3.2.1 x3.2.2) (.slice x4.1 x4.2.1 x4.2.2) (.slice x5.1 x5.2.1 x5.2.2) M2
  have MD:AQ n u2 (fun g=>w.heap.size+2<=g) ⟨⟨l1, .slice x1.1 x1.2.1 x1.2.2, .slice x2.1 x2.2.1 x2.2.2, .slice x3.1 x3.2.1 x3.2.2, .slice x4.1 x4.2.1 x4.2.2⟩, .slice x5.1 x5.2.1 x5.2.2⟩ T l:=⟨T1.out,O5.out.mono (Nat.zero_le _),fun g hg=>(O5.out.lt g hg).1⟩
  have KS:=Ag (Al (N1.out.step SL.out) X.2 (by omega))
  have BB:=Below.and B2.out SL.out
  have FIN:=Ag (And.intro X.1 (And.intro ((MD.chg X.2 (fun g hg=>by omega)).mono (G:=fun g=>w.heap.size<=g) (fun g hg=>by omega)) (BB.trans (X.2.below (fun g _ hg=>by omega) BB.size))))
  clear M2 X MD BB;refine wpAnyH_ready (rs:=[8]) (by kernel_rfl) (by simp) ?_
  refine AllReadyH.cons (o:=⟨_,_,_,_,_,_⟩) rfl (fun K hK=> ?_) AllReadyH.nil
  go_simp
  refine hK.out _ _ (fun j=>Aa KS.out) (fun hH2=> ?_)
  clear hK K hH;have hH:=hH2
  clear hH2;try simp only[Act.put,List.setIfInBounds_toArray,List.set_cons_zero,List.set_cons_succ]
  refine wpAnyH_done (by kernel_rfl) ?_ _
  clear hH m0 f0;go_wp2_with fail;simp[bodyPost,results,Tryz.results75,go_sem,Aa FIN.out.1]
  exact⟨⟨⟨l1, .slice x1.1 x1.2.1 x1.2.2, .slice x2.1 x2.2.1 x2.2.2, .slice x3.1 x3.2.1 x3.2.2, .slice x4.1 x4.2.1 x4.2.2⟩, .slice x5.1 x5.2.1 x5.2.2⟩,by simp,FIN.out.2⟩
end
end Go.Proofs.YtkcaelfkcepdkaaGreat
